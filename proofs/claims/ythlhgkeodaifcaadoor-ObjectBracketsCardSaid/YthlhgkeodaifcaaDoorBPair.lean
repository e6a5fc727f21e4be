/-
  The document's pair: the nearest opening bracket whose closing one is not ahead. (MADE by wip/tools/gen_bpair.py.)
-/
import Derived.Test.YthlhgkeodaifcaaDoorBClo
import Derived.Test.YthlhgkeodaifcaaDoorRHand
namespace Go.Proofs.YthlhgkeodaifcaaDoor.U
open Go.RowKit
set_option linter.unusedVariables false
set_option linter.unusedSimpArgs false
set_option maxRecDepth 100000

theorem results_cct {fn : Func} {p q r : Tmp} {ty tq : TypeId} (h : fn.results = #[.cell p ty, .cell q tq, .tmp r]) (tmps : Array Value) (P : Program) (w : World) :
    (results fn tmps).run P w = ((asAddr (tmps.getD p undef)).run P w).andThen fun a w₁ => ((loadVar ty a).run P w₁).andThen fun v w₂ =>
      ((asAddr (tmps.getD q undef)).run P w₂).andThen fun b w₃ => ((loadVar tq b).run P w₃).andThen fun u w₄ => .ok (.tuple #[v, u, tmps.getD r undef]) w₄ := by
  simp only [results, h]
  simp [Sem.run_bind, Result.andThen]
/-- the runes among the first i places, the last one first -/
def revP (L : List (List Int)) (i : Nat) : List (Pl × Int) := ((((places L).take i).filter fun q => decide (q.2 < (lnL L q.1).length)).map fun q => (q, (lnL L q.1).getD q.2 0)).reverse
theorem rev_all (L : List (List Int)) : revP L (places L).length = (runesP L).reverse := by
  unfold revP runesP
  rw [List.take_of_length_le (Nat.le_refl _)]
theorem rev_step {L : List (List Int)} {q : Pl} {i : Nat} (h : (places L)[i]? = some q) : revP L (i + 1) = if q.2 < (lnL L q.1).length then (q, (lnL L q.1).getD q.2 0) :: revP L i else revP L i := by
  obtain ⟨hi, he⟩ := List.getElem?_eq_some_iff.1 h
  unfold revP
  rw [List.take_succ_eq_append_getElem hi, he, List.filter_append, List.map_append, List.reverse_append]
  by_cases hc : q.2 < (lnL L q.1).length
  · rw [if_pos hc]
    simp [List.filter_cons, hc]
  · rw [if_neg hc]
    simp [List.filter_cons, hc]
/-- what is found among the first i places -/
def prP (L : List (List Int)) (p : Pl) (o c : Int) (i : Nat) : Option (Pl × Pl) := ((revP L i).find? (opensB L p o c)).bind fun e => (scanB o c 0 (fromP L e.1)).map fun q => (e.1, q)
theorem prP_all (L : List (List Int)) (p : Pl) (o c : Int) : prP L p o c (places L).length = pairP L p o c := by
  unfold prP pairP
  rw [rev_all]
theorem prP_0 (L : List (List Int)) (p : Pl) (o c : Int) : prP L p o c 0 = none := rfl
theorem prP_skip {L : List (List Int)} {p q : Pl} {o c : Int} {i : Nat} (h : (places L)[i]? = some q) (hn : ¬ q.2 < (lnL L q.1).length ∨ opensB L p o c (q, (lnL L q.1).getD q.2 0) = false) : prP L p o c (i + 1) = prP L p o c i := by
  unfold prP
  rw [rev_step h]
  by_cases hc : q.2 < (lnL L q.1).length
  · rw [if_pos hc, List.find?_cons_of_neg (by rw [hn.resolve_left (fun g => g hc)]; decide)]
  · rw [if_neg hc]
theorem prP_take {L : List (List Int)} {p q z : Pl} {o c : Int} {i : Nat} (h : (places L)[i]? = some q) (hc : q.2 < (lnL L q.1).length) (ho : opensB L p o c (q, (lnL L q.1).getD q.2 0) = true) (hz : scanB o c 0 (fromP L q) = some z) : prP L p o c (i + 1) = some (q, z) := by
  unfold prP
  rw [rev_step h, if_pos hc, List.find?_cons_of_pos ho]
  simp [hz]
theorem opens_eq (L : List (List Int)) (p q : Pl) (o c r : Int) : opensB L p o c (q, r) = (!aheadP p q && (r == o) && (match scanB o c 0 (fromP L q) with | some z => !aheadP z p | none => false)) := rfl
set_option maxHeartbeats 4000000 in
theorem rpair_any (F : Nat → Prop) (a : Option Addr) (n c : Nat) (L : List (List Int)) (p1 p2 : Nat) (o1 o2 : Int) (w : World) (h : RdL F w a n c L) (hoo : o1 ≠ o2) (hz : sizeN (lens L) ≤ 262144) :
    Calls Tryd.prog 34 #[.slice a n c, .agg #[.int .i64 (p1 : Nat), .int .i64 (p2 : Nat)], .int .i32 o1, .int .i32 o2] w fun e w' => e = .returned (.tuple #[plV ((pairP L (p1, p2) o1 o2).getD ((0, 0), (0, 0))).1, plV ((pairP L (p1, p2) o1 o2).getD ((0, 0), (0, 0))).2, .bool (pairP L (p1, p2) o1 o2).isSome]) ∧ Below w.heap.size w w' := by
  rw [← prP_all]
  obtain ⟨N, hN⟩ : ∃ N, (places L).length = N := ⟨_, rfl⟩
  rw [hN]
  obtain ⟨res, hres⟩ : ∃ r, prP L (p1, p2) o1 o2 N = r := ⟨_, rfl⟩
  rw [hres]
  have hl := h.len
  have hsm := h.small
  obtain ⟨w0, hw0, hsz0, g1, g2, hb0⟩ := ltwo w (.cells #[.int .i64 (p1 : Nat), .int .i64 (p2 : Nat)] 24) (.cells #[.int .i64 0, .int .i64 0] 24)
  obtain ⟨w1, hw1, hsz1, g3, hb1'⟩ := lone w0 (.cells #[.int .i64 0, .int .i64 0] 24)
  rw [hsz0] at g3
  replace g1 := (hb1'.block _ (Array.getElem?_eq_some_iff.1 g1).1).trans g1
  replace g2 := (hb1'.block _ (Array.getElem?_eq_some_iff.1 g2).1).trans g2
  have hb1 : Below w.heap.size w w1 := btr hb0 hb1'
  have HPL := Lib.hid (rplaces_any F a n c L w1 (h.below hb1) hz)
  have hnp : N ≤ 262144 := by rw [← hN]; exact Nat.le_trans (places_len L) hz
  have HNN := Lib.hid hN
  have HW1 : Hid (((w.alloc (.cells #[.int .i64 (p1 : Nat), .int .i64 (p2 : Nat)] 24)).alloc (.cells #[.int .i64 0, .int .i64 0] 24)).alloc (.cells #[.int .i64 0, .int .i64 0] 24) = w1) := by show _ = _; rw [hw0, hw1]
  have HB1 := Lib.hid hb1
  have G1 := Lib.hid g1
  have G2 := Lib.hid g2
  have G3 : Hid (w1.heap[w.heap.size + 1 + 1]? = some (.cells #[.int .i64 0, .int .i64 0] 24 (0, 0))) := g3
  have HRES := Lib.hid hres
  have H0 := Lib.hid h
  have HAH : Hid (∀ (a1 a2 b1 b2 : Nat) (W' : World), Calls Tryd.prog 13 #[.agg #[.int .i64 (a1 : Nat), .int .i64 (a2 : Nat)], .agg #[.int .i64 (b1 : Nat), .int .i64 (b2 : Nat)]] W' fun e w' => e = .returned (.bool (aheadP (a1, a2) (b1, b2))) ∧ Below W'.heap.size W' w') := fun a1 a2 b1 b2 W' => rahead_any (a1, a2) (b1, b2) W'
  have HCLO := Lib.hid (fun (q1 q2 : Nat) (W' : World) (hb : Below w.heap.size w W') => rcloses_any F a n c L q1 q2 o1 o2 W' (h.below hb) hoo hz)
  clear hw0 hw1 hb0 hb1 hb1' g1 g2 g3 hres h hl hoo hsz0 hsz1 hN
  go_enter Tryd.func34, Tryd.ntmps34
  go_upto_region 1 with fail
  rw [HW1.out]
  go_wp2_with (go_at_call 16; refine HPL.out.mono ?_; rintro e w3 ⟨a', n', c', rfl, hp⟩; have HP3 := Lib.hid hp.out.1; have hb3 := hp.out.2; have hn' : n' = N := (by have h1 := hp.out.1.len; have h2 := HNN.out; omega); subst hn'; have HB3 : Hid (Below w.heap.size w w3) := btr HB1.out hb3; have G13 := Lib.hid ((hb3.block _ (Array.getElem?_eq_some_iff.1 G1.out).1).trans G1.out); have G23 := Lib.hid ((hb3.block _ (Array.getElem?_eq_some_iff.1 G2.out).1).trans G2.out); have G33 := Lib.hid ((hb3.block _ (Array.getElem?_eq_some_iff.1 G3.out).1).trans G3.out); clear hp hb3)
  go_loopw [12] (fun v12 wr => ∃ (v : Int) (j : Nat), v12 = .int .i64 v ∧ Hid (v = (j : Int) - 1) ∧ j ≤ n' ∧ Hid (prP L (p1, p2) o1 o2 j = res) ∧ Hid (Below w3.heap.size w3 wr)) (fun v12 _ => match v12 with | .int _ v => (v + 1).toNat | _ => 0)
  case atStart => exact ⟨_, n', rfl, by show _ = _; first | rfl | omega, Nat.le_refl _, HRES.out, Below.refl _ _⟩
  case round =>
    obtain ⟨v, j0, rfl, HV, hj0, HS, HB⟩ := hrel
    have hg1 := (HB.out.block _ (Array.getElem?_eq_some_iff.1 G13.out).1).trans G13.out
    have hg2 := (HB.out.block _ (Array.getElem?_eq_some_iff.1 G23.out).1).trans G23.out
    have hg3 := (HB.out.block _ (Array.getElem?_eq_some_iff.1 G33.out).1).trans G33.out
    by_cases hj : 0 < j0
    · obtain ⟨i, rfl⟩ : ∃ i, j0 = i + 1 := ⟨j0 - 1, by omega⟩
      have hv : v = (i : Int) := by have := HV.out; omega
      subst hv
      have hi : i < n' := by omega
      obtain ⟨⟨q1, q2⟩, hq⟩ : ∃ q, (places L)[i]? = some q := ⟨_, List.getElem?_eq_getElem (by rw [HNN.out]; exact hi)⟩
      obtain ⟨pb, po, rfl, hpb, c0, c1⟩ := HP3.out.get HB.out hq
      simp only at c0 c1
      have hok : okP L (q1, q2) := places_mem.1 (List.mem_of_getElem? hq)
      have hskip := prP_skip (p := (p1, p2)) (o := o1) (c := o2) hq
      have htake := fun z => prP_take (p := (p1, p2)) (z := z) (o := o1) (c := o2) hq
      obtain ⟨w6, hw6⟩ : ∃ w6, wr.alloc (.cells #[.int .i64 (q1 : Nat), .int .i64 (q2 : Nat)] 24) = w6 := ⟨_, rfl⟩
      have hb6 : Below wr.heap.size wr w6 := by rw [← hw6]; exact bal _ _
      have hn6 : At w6 wr.heap.size (q1, q2) := by rw [← hw6]; exact heap_alloc_new wr _
      have hg16 := (hb6.block _ (Array.getElem?_eq_some_iff.1 hg1).1).trans hg1
      have HB6 : Hid (Below w3.heap.size w3 w6) := btr HB.out hb6
      have HN6 := Lib.hid hn6
      have G16 := Lib.hid hg16
      have HBW6 : Hid (Below w.heap.size w w6) := btr HB3.out HB6.out
      have hrr6 : w.heap.size + 1 + 1 < wr.heap.size := (Array.getElem?_eq_some_iff.1 hg3).1
      have G26 := Lib.hid ((hb6.block _ (Array.getElem?_eq_some_iff.1 hg2).1).trans hg2)
      have G36 := Lib.hid ((hb6.block _ (Array.getElem?_eq_some_iff.1 hg3).1).trans hg3)
      obtain ⟨b, off, ra, rc, rfl, hq1n, hbl, l0, hrd⟩ := okP.line (p := (q1, q2)) H0.out hok HBW6.out
      simp only at l0 hrd hq1n
      obtain ⟨x, hxx⟩ : ∃ x, lnL L q1 = x := ⟨_, rfl⟩
      have hq2 := hok.2
      simp only at hq2 hskip htake
      rw [hxx] at l0 hrd hq2 hskip htake
      obtain ⟨m, hm⟩ : ∃ m, x.length = m := ⟨_, rfl⟩
      rw [hm] at l0 hrd hq2 hskip htake
      have hms := hrd.small
      have HRD := Lib.hid hrd
      have d0 : (0 : Int) ≤ (i : Int) := by omega
      have d1 : decide ((0 : Int) ≤ (i : Int)) = true := by simp
      have d2 : ¬ (i : Int) < 0 := by omega
      have d3 : decide ((i : Int) < 0) = false := by simp
      have d6 : (i : Int) < (n' : Int) := by omega
      have d4 : ¬ (q1 : Int) < 0 := by omega
      have d5 : decide ((q1 : Int) < 0) = false := by simp
      have d7 : IntKind.i64.wrap ((i : Int) - 1) = (i : Int) - 1 := by rw [IntKind.wrap_i64]; omega
      have hblw : b < w6.heap.size := by have := HBW6.out.size; show b < _; omega
      obtain ⟨x0, x1, -, -⟩ := row2 hg16
      obtain ⟨u0, u1, -, -⟩ := row2 hn6
      simp only at u0 u1
      obtain ⟨ah, hah⟩ : ∃ y, aheadP (p1, p2) (q1, q2) = y := ⟨_, rfl⟩
      have HPQ := Lib.hid (fun W' => HAH.out p1 p2 q1 q2 W')
      rw [hah] at HPQ
      by_cases hm0 : m = 0
      · have hs : prP L (p1, p2) o1 o2 (i + 1) = prP L (p1, p2) o1 o2 i := hskip (.inl (by omega))
        have HS2 : Hid (prP L (p1, p2) o1 o2 i = res) := by show _ = _; rw [← hs]; exact HS.out
        have e1 : ((m : Int) == 0) = true := by simp; omega
        have KS : Hid (∀ w' : World, Below w6.heap.size w6 w' → (fun w' => Below w6.heap.size w6 w' ∧ w'.cell? ⟨w.heap.size, 0, none⟩ = some (.int .i64 (p1 : Nat)) ∧ w'.cell? ⟨w.heap.size, 1, none⟩ = some (.int .i64 (p2 : Nat)) ∧ w'.cell? ⟨wr.heap.size, 0, none⟩ = some (.int .i64 (q1 : Nat)) ∧ w'.cell? ⟨wr.heap.size, 1, none⟩ = some (.int .i64 (q2 : Nat)) ∧ w'.cell? ⟨b, off + q1, none⟩ = some (.slice ra m rc)) w') := fun w' hb => ⟨hb, (hb.cell (p := ⟨w.heap.size, 0, none⟩) (Array.getElem?_eq_some_iff.1 G16.out).1).trans x0, (hb.cell (p := ⟨w.heap.size, 1, none⟩) (Array.getElem?_eq_some_iff.1 G16.out).1).trans x1, (hb.cell (p := ⟨wr.heap.size, 0, none⟩) HN6.out.lt).trans u0, (hb.cell (p := ⟨wr.heap.size, 1, none⟩) HN6.out.lt).trans u1, (hb.cell (p := ⟨b, off + q1, none⟩) hblw).trans l0⟩
        clear hg1 hg2 hg3 hg16 hb6 hn6 hq hok hrd hxx hm hah hskip htake hs hm0
        go_wp2_with fail
        cases ah with
        | true =>
          refine wp_region_held (S := fun w' => Below w6.heap.size w6 w' ∧ w'.cell? ⟨w.heap.size, 0, none⟩ = some (.int .i64 (p1 : Nat)) ∧ w'.cell? ⟨w.heap.size, 1, none⟩ = some (.int .i64 (p2 : Nat)) ∧ w'.cell? ⟨wr.heap.size, 0, none⟩ = some (.int .i64 (q1 : Nat)) ∧ w'.cell? ⟨wr.heap.size, 1, none⟩ = some (.int .i64 (q2 : Nat)) ∧ w'.cell? ⟨b, off + q1, none⟩ = some (.slice ra m rc)) (by kernel_rfl) ?_
          change wpAnyH _ _ _ _ _ _ _ _ (World.drew _)
          have hHA : (fun w' => Below w6.heap.size w6 w' ∧ w'.cell? ⟨w.heap.size, 0, none⟩ = some (.int .i64 (p1 : Nat)) ∧ w'.cell? ⟨w.heap.size, 1, none⟩ = some (.int .i64 (p2 : Nat)) ∧ w'.cell? ⟨wr.heap.size, 0, none⟩ = some (.int .i64 (q1 : Nat)) ∧ w'.cell? ⟨wr.heap.size, 1, none⟩ = some (.int .i64 (q2 : Nat)) ∧ w'.cell? ⟨b, off + q1, none⟩ = some (.slice ra m rc)) (World.drew w6) := KS.out _ ((Below.refl _ _).drew)
          refine takeH 0 (some 29) (v := ?_) rfl rfl (by kernel_rfl) (by kernel_rfl) (by kernel_rfl) (fun _ _ _ h => h) (Or.inl ⟨by kernel_rfl, ?_⟩) hHA ?_
          rotate_left
          · intro w' hSw
            obtain ⟨-, s0, s1, s2, s3, s4⟩ := hSw
            go_simp
            try with_reducible rfl
          (try simp only [Act.put, List.setIfInBounds_toArray, List.set_cons_zero, List.set_cons_succ])
          refine takeH 1 (some 30) (v := ?_) rfl rfl (by kernel_rfl) (by kernel_rfl) (by kernel_rfl) (fun _ _ _ h => h) (Or.inl ⟨by kernel_rfl, ?_⟩) hHA ?_
          rotate_left
          · intro w' hSw
            obtain ⟨-, s0, s1, s2, s3, s4⟩ := hSw
            go_simp
            try with_reducible rfl
          (try simp only [Act.put, List.setIfInBounds_toArray, List.set_cons_zero, List.set_cons_succ])
          refine callH 2 (some 31) (f := 13) (args := ?_) rfl rfl (by kernel_rfl) (by kernel_rfl) ?_ ?_
          rotate_left
          · go_simp
            try with_reducible rfl
          refine (HPQ.out _).mono ?_
          rintro e w7 ⟨rfl, hb7⟩
          have hHA1 := KS.out _ (btr hHA.1 hb7)
          refine ⟨_, rfl, hHA1, ?_⟩
          (try simp only [Act.put, List.setIfInBounds_toArray, List.set_cons_zero, List.set_cons_succ])
          refine takeH 3 (some 32) (v := ?_) rfl rfl (by kernel_rfl) (by kernel_rfl) (by kernel_rfl) (fun _ _ _ h => h) (Or.inl ⟨by kernel_rfl, ?_⟩) hHA1 ?_
          rotate_left
          · intro w' hSw
            obtain ⟨-, s0, s1, s2, s3, s4⟩ := hSw
            go_simp
            try with_reducible rfl
          (try simp only [Act.put, List.setIfInBounds_toArray, List.set_cons_zero, List.set_cons_succ])
          refine takeH 4 (some 33) (v := undef) rfl rfl (by kernel_rfl) (by kernel_rfl) (by kernel_rfl) (fun _ _ _ h => h) (Or.inr ⟨by kernel_rfl, rfl⟩) hHA1 ?_
          (try simp only [Act.put, List.setIfInBounds_toArray, List.set_cons_zero, List.set_cons_succ])
          refine takeH 5 (some 34) (v := undef) rfl rfl (by kernel_rfl) (by kernel_rfl) (by kernel_rfl) (fun _ _ _ h => h) (Or.inr ⟨by kernel_rfl, rfl⟩) hHA1 ?_
          (try simp only [Act.put, List.setIfInBounds_toArray, List.set_cons_zero, List.set_cons_succ])
          refine takeH 6 (some 35) (v := undef) rfl rfl (by kernel_rfl) (by kernel_rfl) (by kernel_rfl) (fun _ _ _ h => h) (Or.inr ⟨by kernel_rfl, rfl⟩) hHA1 ?_
          (try simp only [Act.put, List.setIfInBounds_toArray, List.set_cons_zero, List.set_cons_succ])
          refine takeH 7 (some 36) (v := undef) rfl rfl (by kernel_rfl) (by kernel_rfl) (by kernel_rfl) (fun _ _ _ h => h) (Or.inr ⟨by kernel_rfl, rfl⟩) hHA1 ?_
          (try simp only [Act.put, List.setIfInBounds_toArray, List.set_cons_zero, List.set_cons_succ])
          refine takeH 8 (some 37) (v := undef) rfl rfl (by kernel_rfl) (by kernel_rfl) (by kernel_rfl) (fun _ _ _ h => h) (Or.inr ⟨by kernel_rfl, rfl⟩) hHA1 ?_
          (try simp only [Act.put, List.setIfInBounds_toArray, List.set_cons_zero, List.set_cons_succ])
          refine takeH 9 (some 38) (v := undef) rfl rfl (by kernel_rfl) (by kernel_rfl) (by kernel_rfl) (fun _ _ _ h => h) (Or.inr ⟨by kernel_rfl, rfl⟩) hHA1 ?_
          (try simp only [Act.put, List.setIfInBounds_toArray, List.set_cons_zero, List.set_cons_succ])
          refine takeH 10 (some 39) (v := undef) rfl rfl (by kernel_rfl) (by kernel_rfl) (by kernel_rfl) (fun _ _ _ h => h) (Or.inr ⟨by kernel_rfl, rfl⟩) hHA1 ?_
          (try simp only [Act.put, List.setIfInBounds_toArray, List.set_cons_zero, List.set_cons_succ])
          refine takeH 11 (some 40) (v := ?_) rfl rfl (by kernel_rfl) (by kernel_rfl) (by kernel_rfl) (fun _ _ _ h => h) (Or.inl ⟨by kernel_rfl, ?_⟩) hHA1 ?_
          rotate_left
          · intro w' hSw
            obtain ⟨-, s0, s1, s2, s3, s4⟩ := hSw
            go_simp
            try with_reducible rfl
          (try simp only [Act.put, List.setIfInBounds_toArray, List.set_cons_zero, List.set_cons_succ])
          refine takeH 12 (some 41) (v := ?_) rfl rfl (by kernel_rfl) (by kernel_rfl) (by kernel_rfl) (fun _ _ _ h => h) (Or.inl ⟨by kernel_rfl, ?_⟩) hHA1 ?_
          rotate_left
          · intro w' hSw
            obtain ⟨-, s0, s1, s2, s3, s4⟩ := hSw
            go_simp
            try with_reducible rfl
          (try simp only [Act.put, List.setIfInBounds_toArray, List.set_cons_zero, List.set_cons_succ])
          refine takeH 13 (some 42) (v := undef) rfl rfl (by kernel_rfl) (by kernel_rfl) (by kernel_rfl) (fun _ _ _ h => h) (Or.inr ⟨by kernel_rfl, rfl⟩) hHA1 ?_
          (try simp only [Act.put, List.setIfInBounds_toArray, List.set_cons_zero, List.set_cons_succ])
          refine takeH 14 (some 43) (v := undef) rfl rfl (by kernel_rfl) (by kernel_rfl) (by kernel_rfl) (fun _ _ _ h => h) (Or.inr ⟨by kernel_rfl, rfl⟩) hHA1 ?_
          (try simp only [Act.put, List.setIfInBounds_toArray, List.set_cons_zero, List.set_cons_succ])
          refine takeH 15 (some 44) (v := undef) rfl rfl (by kernel_rfl) (by kernel_rfl) (by kernel_rfl) (fun _ _ _ h => h) (Or.inr ⟨by kernel_rfl, rfl⟩) hHA1 ?_
          (try simp only [Act.put, List.setIfInBounds_toArray, List.set_cons_zero, List.set_cons_succ])
          refine takeH 16 (some 45) (v := undef) rfl rfl (by kernel_rfl) (by kernel_rfl) (by kernel_rfl) (fun _ _ _ h => h) (Or.inr ⟨by kernel_rfl, rfl⟩) hHA1 ?_
          (try simp only [Act.put, List.setIfInBounds_toArray, List.set_cons_zero, List.set_cons_succ])
          refine takeH 17 (some 46) (v := undef) rfl rfl (by kernel_rfl) (by kernel_rfl) (by kernel_rfl) (fun _ _ _ h => h) (Or.inr ⟨by kernel_rfl, rfl⟩) hHA1 ?_
          (try simp only [Act.put, List.setIfInBounds_toArray, List.set_cons_zero, List.set_cons_succ])
          refine takeH 18 (some 47) (v := undef) rfl rfl (by kernel_rfl) (by kernel_rfl) (by kernel_rfl) (fun _ _ _ h => h) (Or.inr ⟨by kernel_rfl, rfl⟩) hHA1 ?_
          (try simp only [Act.put, List.setIfInBounds_toArray, List.set_cons_zero, List.set_cons_succ])
          refine takeH 19 (some 48) (v := undef) rfl rfl (by kernel_rfl) (by kernel_rfl) (by kernel_rfl) (fun _ _ _ h => h) (Or.inr ⟨by kernel_rfl, rfl⟩) hHA1 ?_
          (try simp only [Act.put, List.setIfInBounds_toArray, List.set_cons_zero, List.set_cons_succ])
          refine takeH 20 (some 49) (v := undef) rfl rfl (by kernel_rfl) (by kernel_rfl) (by kernel_rfl) (fun _ _ _ h => h) (Or.inr ⟨by kernel_rfl, rfl⟩) hHA1 ?_
          (try simp only [Act.put, List.setIfInBounds_toArray, List.set_cons_zero, List.set_cons_succ])
          refine takeH 21 (some 50) (v := undef) rfl rfl (by kernel_rfl) (by kernel_rfl) (by kernel_rfl) (fun _ _ _ h => h) (Or.inr ⟨by kernel_rfl, rfl⟩) hHA1 ?_
          (try simp only [Act.put, List.setIfInBounds_toArray, List.set_cons_zero, List.set_cons_succ])
          refine takeH 22 (some 51) (v := undef) rfl rfl (by kernel_rfl) (by kernel_rfl) (by kernel_rfl) (fun _ _ _ h => h) (Or.inr ⟨by kernel_rfl, rfl⟩) hHA1 ?_
          (try simp only [Act.put, List.setIfInBounds_toArray, List.set_cons_zero, List.set_cons_succ])
          refine takeH 23 (some 52) (v := undef) rfl rfl (by kernel_rfl) (by kernel_rfl) (by kernel_rfl) (fun _ _ _ h => h) (Or.inr ⟨by kernel_rfl, rfl⟩) hHA1 ?_
          (try simp only [Act.put, List.setIfInBounds_toArray, List.set_cons_zero, List.set_cons_succ])
          refine takeH 24 (some 53) (v := ?_) rfl rfl (by kernel_rfl) (by kernel_rfl) (by kernel_rfl) (fun _ _ _ h => h) (Or.inl ⟨by kernel_rfl, ?_⟩) hHA1 ?_
          rotate_left
          · intro w' hSw
            obtain ⟨-, s0, s1, s2, s3, s4⟩ := hSw
            go_simp
            try with_reducible rfl
          (try simp only [Act.put, List.setIfInBounds_toArray, List.set_cons_zero, List.set_cons_succ])
          refine wpAnyH_done (by kernel_rfl) ?_ _
          have HB7 : Hid (Below w6.heap.size w6 w7) := hHA1.1
          clear hHA1 hHA
          go_wp2_with fail
          go_roundw
          case rel => exact ⟨_, i, rfl, by show _ = _; omega, by omega, HS2.out, btr HB6.out HB7.out⟩
          case measure => show _ < _; simp only; omega
        | false =>
          refine wp_region_held (S := fun w' => Below w6.heap.size w6 w' ∧ w'.cell? ⟨w.heap.size, 0, none⟩ = some (.int .i64 (p1 : Nat)) ∧ w'.cell? ⟨w.heap.size, 1, none⟩ = some (.int .i64 (p2 : Nat)) ∧ w'.cell? ⟨wr.heap.size, 0, none⟩ = some (.int .i64 (q1 : Nat)) ∧ w'.cell? ⟨wr.heap.size, 1, none⟩ = some (.int .i64 (q2 : Nat)) ∧ w'.cell? ⟨b, off + q1, none⟩ = some (.slice ra m rc)) (by kernel_rfl) ?_
          change wpAnyH _ _ _ _ _ _ _ _ (World.drew _)
          have hHB : (fun w' => Below w6.heap.size w6 w' ∧ w'.cell? ⟨w.heap.size, 0, none⟩ = some (.int .i64 (p1 : Nat)) ∧ w'.cell? ⟨w.heap.size, 1, none⟩ = some (.int .i64 (p2 : Nat)) ∧ w'.cell? ⟨wr.heap.size, 0, none⟩ = some (.int .i64 (q1 : Nat)) ∧ w'.cell? ⟨wr.heap.size, 1, none⟩ = some (.int .i64 (q2 : Nat)) ∧ w'.cell? ⟨b, off + q1, none⟩ = some (.slice ra m rc)) (World.drew w6) := KS.out _ ((Below.refl _ _).drew)
          refine takeH 0 (some 29) (v := ?_) rfl rfl (by kernel_rfl) (by kernel_rfl) (by kernel_rfl) (fun _ _ _ h => h) (Or.inl ⟨by kernel_rfl, ?_⟩) hHB ?_
          rotate_left
          · intro w' hSw
            obtain ⟨-, s0, s1, s2, s3, s4⟩ := hSw
            go_simp
            try with_reducible rfl
          (try simp only [Act.put, List.setIfInBounds_toArray, List.set_cons_zero, List.set_cons_succ])
          refine takeH 1 (some 30) (v := ?_) rfl rfl (by kernel_rfl) (by kernel_rfl) (by kernel_rfl) (fun _ _ _ h => h) (Or.inl ⟨by kernel_rfl, ?_⟩) hHB ?_
          rotate_left
          · intro w' hSw
            obtain ⟨-, s0, s1, s2, s3, s4⟩ := hSw
            go_simp
            try with_reducible rfl
          (try simp only [Act.put, List.setIfInBounds_toArray, List.set_cons_zero, List.set_cons_succ])
          refine callH 2 (some 31) (f := 13) (args := ?_) rfl rfl (by kernel_rfl) (by kernel_rfl) ?_ ?_
          rotate_left
          · go_simp
            try with_reducible rfl
          refine (HPQ.out _).mono ?_
          rintro e w7 ⟨rfl, hb7⟩
          have hHB1 := KS.out _ (btr hHB.1 hb7)
          refine ⟨_, rfl, hHB1, ?_⟩
          (try simp only [Act.put, List.setIfInBounds_toArray, List.set_cons_zero, List.set_cons_succ])
          refine takeH 3 (some 32) (v := ?_) rfl rfl (by kernel_rfl) (by kernel_rfl) (by kernel_rfl) (fun _ _ _ h => h) (Or.inl ⟨by kernel_rfl, ?_⟩) hHB1 ?_
          rotate_left
          · intro w' hSw
            obtain ⟨-, s0, s1, s2, s3, s4⟩ := hSw
            go_simp
            try with_reducible rfl
          (try simp only [Act.put, List.setIfInBounds_toArray, List.set_cons_zero, List.set_cons_succ])
          refine takeH 4 (some 33) (v := ?_) rfl rfl (by kernel_rfl) (by kernel_rfl) (by kernel_rfl) (fun _ _ _ h => h) (Or.inl ⟨by kernel_rfl, ?_⟩) hHB1 ?_
          rotate_left
          · intro w' hSw
            obtain ⟨-, s0, s1, s2, s3, s4⟩ := hSw
            go_simp
            try with_reducible rfl
          (try simp only [Act.put, List.setIfInBounds_toArray, List.set_cons_zero, List.set_cons_succ])
          refine takeH 5 (some 34) (v := ?_) rfl rfl (by kernel_rfl) (by kernel_rfl) (by kernel_rfl) (fun _ _ _ h => h) (Or.inl ⟨by kernel_rfl, ?_⟩) hHB1 ?_
          rotate_left
          · intro w' hSw
            obtain ⟨-, s0, s1, s2, s3, s4⟩ := hSw
            go_simp
            try with_reducible rfl
          (try simp only [Act.put, List.setIfInBounds_toArray, List.set_cons_zero, List.set_cons_succ])
          refine takeH 6 (some 35) (v := ?_) rfl rfl (by kernel_rfl) (by kernel_rfl) (by kernel_rfl) (fun _ _ _ h => h) (Or.inl ⟨by kernel_rfl, ?_⟩) hHB1 ?_
          rotate_left
          · intro w' hSw
            obtain ⟨-, s0, s1, s2, s3, s4⟩ := hSw
            go_simp
            try with_reducible rfl
          (try simp only [Act.put, List.setIfInBounds_toArray, List.set_cons_zero, List.set_cons_succ])
          refine takeH 7 (some 36) (v := ?_) rfl rfl (by kernel_rfl) (by kernel_rfl) (by kernel_rfl) (fun _ _ _ h => h) (Or.inl ⟨by kernel_rfl, ?_⟩) hHB1 ?_
          rotate_left
          · intro w' hSw
            obtain ⟨-, s0, s1, s2, s3, s4⟩ := hSw
            go_simp
            try with_reducible rfl
          (try simp only [Act.put, List.setIfInBounds_toArray, List.set_cons_zero, List.set_cons_succ])
          refine takeH 8 (some 37) (v := ?_) rfl rfl (by kernel_rfl) (by kernel_rfl) (by kernel_rfl) (fun _ _ _ h => h) (Or.inl ⟨by kernel_rfl, ?_⟩) hHB1 ?_
          rotate_left
          · intro w' hSw
            obtain ⟨-, s0, s1, s2, s3, s4⟩ := hSw
            go_simp
            try with_reducible rfl
          (try simp only [Act.put, List.setIfInBounds_toArray, List.set_cons_zero, List.set_cons_succ])
          refine takeH 9 (some 38) (v := ?_) rfl rfl (by kernel_rfl) (by kernel_rfl) (by kernel_rfl) (fun _ _ _ h => h) (Or.inl ⟨by kernel_rfl, ?_⟩) hHB1 ?_
          rotate_left
          · intro w' hSw
            obtain ⟨-, s0, s1, s2, s3, s4⟩ := hSw
            go_simp
            try with_reducible rfl
          (try simp only [Act.put, List.setIfInBounds_toArray, List.set_cons_zero, List.set_cons_succ])
          refine takeH 10 (some 39) (v := ?_) rfl rfl (by kernel_rfl) (by kernel_rfl) (by kernel_rfl) (fun _ _ _ h => h) (Or.inl ⟨by kernel_rfl, ?_⟩) hHB1 ?_
          rotate_left
          · intro w' hSw
            obtain ⟨-, s0, s1, s2, s3, s4⟩ := hSw
            go_simp
            try with_reducible rfl
          (try simp only [Act.put, List.setIfInBounds_toArray, List.set_cons_zero, List.set_cons_succ])
          refine takeH 11 (some 40) (v := ?_) rfl rfl (by kernel_rfl) (by kernel_rfl) (by kernel_rfl) (fun _ _ _ h => h) (Or.inl ⟨by kernel_rfl, ?_⟩) hHB1 ?_
          rotate_left
          · intro w' hSw
            obtain ⟨-, s0, s1, s2, s3, s4⟩ := hSw
            go_simp
            try with_reducible rfl
          (try simp only [Act.put, List.setIfInBounds_toArray, List.set_cons_zero, List.set_cons_succ])
          refine takeH 12 (some 41) (v := ?_) rfl rfl (by kernel_rfl) (by kernel_rfl) (by kernel_rfl) (fun _ _ _ h => h) (Or.inl ⟨by kernel_rfl, ?_⟩) hHB1 ?_
          rotate_left
          · intro w' hSw
            obtain ⟨-, s0, s1, s2, s3, s4⟩ := hSw
            go_simp
            try with_reducible rfl
          (try simp only [Act.put, List.setIfInBounds_toArray, List.set_cons_zero, List.set_cons_succ])
          refine takeH 13 (some 42) (v := undef) rfl rfl (by kernel_rfl) (by kernel_rfl) (by kernel_rfl) (fun _ _ _ h => h) (Or.inr ⟨by kernel_rfl, rfl⟩) hHB1 ?_
          (try simp only [Act.put, List.setIfInBounds_toArray, List.set_cons_zero, List.set_cons_succ])
          refine takeH 14 (some 43) (v := undef) rfl rfl (by kernel_rfl) (by kernel_rfl) (by kernel_rfl) (fun _ _ _ h => h) (Or.inr ⟨by kernel_rfl, rfl⟩) hHB1 ?_
          (try simp only [Act.put, List.setIfInBounds_toArray, List.set_cons_zero, List.set_cons_succ])
          refine takeH 15 (some 44) (v := undef) rfl rfl (by kernel_rfl) (by kernel_rfl) (by kernel_rfl) (fun _ _ _ h => h) (Or.inr ⟨by kernel_rfl, rfl⟩) hHB1 ?_
          (try simp only [Act.put, List.setIfInBounds_toArray, List.set_cons_zero, List.set_cons_succ])
          refine takeH 16 (some 45) (v := undef) rfl rfl (by kernel_rfl) (by kernel_rfl) (by kernel_rfl) (fun _ _ _ h => h) (Or.inr ⟨by kernel_rfl, rfl⟩) hHB1 ?_
          (try simp only [Act.put, List.setIfInBounds_toArray, List.set_cons_zero, List.set_cons_succ])
          refine takeH 17 (some 46) (v := undef) rfl rfl (by kernel_rfl) (by kernel_rfl) (by kernel_rfl) (fun _ _ _ h => h) (Or.inr ⟨by kernel_rfl, rfl⟩) hHB1 ?_
          (try simp only [Act.put, List.setIfInBounds_toArray, List.set_cons_zero, List.set_cons_succ])
          refine takeH 18 (some 47) (v := undef) rfl rfl (by kernel_rfl) (by kernel_rfl) (by kernel_rfl) (fun _ _ _ h => h) (Or.inr ⟨by kernel_rfl, rfl⟩) hHB1 ?_
          (try simp only [Act.put, List.setIfInBounds_toArray, List.set_cons_zero, List.set_cons_succ])
          refine takeH 19 (some 48) (v := undef) rfl rfl (by kernel_rfl) (by kernel_rfl) (by kernel_rfl) (fun _ _ _ h => h) (Or.inr ⟨by kernel_rfl, rfl⟩) hHB1 ?_
          (try simp only [Act.put, List.setIfInBounds_toArray, List.set_cons_zero, List.set_cons_succ])
          refine takeH 20 (some 49) (v := undef) rfl rfl (by kernel_rfl) (by kernel_rfl) (by kernel_rfl) (fun _ _ _ h => h) (Or.inr ⟨by kernel_rfl, rfl⟩) hHB1 ?_
          (try simp only [Act.put, List.setIfInBounds_toArray, List.set_cons_zero, List.set_cons_succ])
          refine takeH 21 (some 50) (v := undef) rfl rfl (by kernel_rfl) (by kernel_rfl) (by kernel_rfl) (fun _ _ _ h => h) (Or.inr ⟨by kernel_rfl, rfl⟩) hHB1 ?_
          (try simp only [Act.put, List.setIfInBounds_toArray, List.set_cons_zero, List.set_cons_succ])
          refine takeH 22 (some 51) (v := undef) rfl rfl (by kernel_rfl) (by kernel_rfl) (by kernel_rfl) (fun _ _ _ h => h) (Or.inr ⟨by kernel_rfl, rfl⟩) hHB1 ?_
          (try simp only [Act.put, List.setIfInBounds_toArray, List.set_cons_zero, List.set_cons_succ])
          refine takeH 23 (some 52) (v := undef) rfl rfl (by kernel_rfl) (by kernel_rfl) (by kernel_rfl) (fun _ _ _ h => h) (Or.inr ⟨by kernel_rfl, rfl⟩) hHB1 ?_
          (try simp only [Act.put, List.setIfInBounds_toArray, List.set_cons_zero, List.set_cons_succ])
          refine takeH 24 (some 53) (v := ?_) rfl rfl (by kernel_rfl) (by kernel_rfl) (by kernel_rfl) (fun _ _ _ h => h) (Or.inl ⟨by kernel_rfl, ?_⟩) hHB1 ?_
          rotate_left
          · intro w' hSw
            obtain ⟨-, s0, s1, s2, s3, s4⟩ := hSw
            go_simp
            try with_reducible rfl
          (try simp only [Act.put, List.setIfInBounds_toArray, List.set_cons_zero, List.set_cons_succ])
          refine wpAnyH_done (by kernel_rfl) ?_ _
          have HB7 : Hid (Below w6.heap.size w6 w7) := hHB1.1
          clear hHB1 hHB
          go_wp2_with fail
          go_roundw
          case rel => exact ⟨_, i, rfl, by show _ = _; omega, by omega, HS2.out, btr HB6.out HB7.out⟩
          case measure => show _ < _; simp only; omega
      · have hq2m : q2 < m := by omega
        have e1 : ((m : Int) == 0) = false := by simp; omega
        obtain ⟨rb, ro, rfl, hrb, c2⟩ := HRD.out.at_ (i := q2) hq2m
        obtain ⟨rr, hrr⟩ : ∃ r, x.getD q2 0 = r := ⟨_, rfl⟩
        rw [hrr] at c2 hskip htake
        rw [opens_eq] at hskip htake
        have e2 : ¬ (q2 : Int) < 0 := by omega
        have e3 : decide ((q2 : Int) < 0) = false := by simp
        have KS : Hid (∀ w' : World, Below w6.heap.size w6 w' → (fun w' => Below w6.heap.size w6 w' ∧ w'.cell? ⟨w.heap.size, 0, none⟩ = some (.int .i64 (p1 : Nat)) ∧ w'.cell? ⟨w.heap.size, 1, none⟩ = some (.int .i64 (p2 : Nat)) ∧ w'.cell? ⟨wr.heap.size, 0, none⟩ = some (.int .i64 (q1 : Nat)) ∧ w'.cell? ⟨wr.heap.size, 1, none⟩ = some (.int .i64 (q2 : Nat)) ∧ w'.cell? ⟨b, off + q1, none⟩ = some (.slice (some ⟨rb, ro, none⟩) m rc) ∧ w'.cell? ⟨rb, ro + q2, none⟩ = some (.int .i32 rr)) w') := fun w' hb => ⟨hb, (hb.cell (p := ⟨w.heap.size, 0, none⟩) (Array.getElem?_eq_some_iff.1 G16.out).1).trans x0, (hb.cell (p := ⟨w.heap.size, 1, none⟩) (Array.getElem?_eq_some_iff.1 G16.out).1).trans x1, (hb.cell (p := ⟨wr.heap.size, 0, none⟩) HN6.out.lt).trans u0, (hb.cell (p := ⟨wr.heap.size, 1, none⟩) HN6.out.lt).trans u1, (hb.cell (p := ⟨b, off + q1, none⟩) hblw).trans l0, (hb.cell (p := ⟨rb, ro + q2, none⟩) hrb).trans c2⟩
        cases ah with
        | true =>
          have hs : prP L (p1, p2) o1 o2 (i + 1) = prP L (p1, p2) o1 o2 i := hskip (.inr (by rw [hah]; rfl))
          have HS2 : Hid (prP L (p1, p2) o1 o2 i = res) := by show _ = _; rw [← hs]; exact HS.out
          clear hg1 hg2 hg3 hg16 hb6 hn6 hq hok hrd hxx hm hah hskip htake hs hm0 hrr
          go_wp2_with fail
          refine wp_region_held (S := fun w' => Below w6.heap.size w6 w' ∧ w'.cell? ⟨w.heap.size, 0, none⟩ = some (.int .i64 (p1 : Nat)) ∧ w'.cell? ⟨w.heap.size, 1, none⟩ = some (.int .i64 (p2 : Nat)) ∧ w'.cell? ⟨wr.heap.size, 0, none⟩ = some (.int .i64 (q1 : Nat)) ∧ w'.cell? ⟨wr.heap.size, 1, none⟩ = some (.int .i64 (q2 : Nat)) ∧ w'.cell? ⟨b, off + q1, none⟩ = some (.slice (some ⟨rb, ro, none⟩) m rc) ∧ w'.cell? ⟨rb, ro + q2, none⟩ = some (.int .i32 rr)) (by kernel_rfl) ?_
          change wpAnyH _ _ _ _ _ _ _ _ (World.drew _)
          have hHC : (fun w' => Below w6.heap.size w6 w' ∧ w'.cell? ⟨w.heap.size, 0, none⟩ = some (.int .i64 (p1 : Nat)) ∧ w'.cell? ⟨w.heap.size, 1, none⟩ = some (.int .i64 (p2 : Nat)) ∧ w'.cell? ⟨wr.heap.size, 0, none⟩ = some (.int .i64 (q1 : Nat)) ∧ w'.cell? ⟨wr.heap.size, 1, none⟩ = some (.int .i64 (q2 : Nat)) ∧ w'.cell? ⟨b, off + q1, none⟩ = some (.slice (some ⟨rb, ro, none⟩) m rc) ∧ w'.cell? ⟨rb, ro + q2, none⟩ = some (.int .i32 rr)) (World.drew w6) := KS.out _ ((Below.refl _ _).drew)
          refine takeH 0 (some 29) (v := ?_) rfl rfl (by kernel_rfl) (by kernel_rfl) (by kernel_rfl) (fun _ _ _ h => h) (Or.inl ⟨by kernel_rfl, ?_⟩) hHC ?_
          rotate_left
          · intro w' hSw
            obtain ⟨-, s0, s1, s2, s3, s4, s5⟩ := hSw
            go_simp
            try with_reducible rfl
          (try simp only [Act.put, List.setIfInBounds_toArray, List.set_cons_zero, List.set_cons_succ])
          refine takeH 1 (some 30) (v := ?_) rfl rfl (by kernel_rfl) (by kernel_rfl) (by kernel_rfl) (fun _ _ _ h => h) (Or.inl ⟨by kernel_rfl, ?_⟩) hHC ?_
          rotate_left
          · intro w' hSw
            obtain ⟨-, s0, s1, s2, s3, s4, s5⟩ := hSw
            go_simp
            try with_reducible rfl
          (try simp only [Act.put, List.setIfInBounds_toArray, List.set_cons_zero, List.set_cons_succ])
          refine callH 2 (some 31) (f := 13) (args := ?_) rfl rfl (by kernel_rfl) (by kernel_rfl) ?_ ?_
          rotate_left
          · go_simp
            try with_reducible rfl
          refine (HPQ.out _).mono ?_
          rintro e w7 ⟨rfl, hb7⟩
          have hHC1 := KS.out _ (btr hHC.1 hb7)
          refine ⟨_, rfl, hHC1, ?_⟩
          (try simp only [Act.put, List.setIfInBounds_toArray, List.set_cons_zero, List.set_cons_succ])
          refine takeH 3 (some 32) (v := ?_) rfl rfl (by kernel_rfl) (by kernel_rfl) (by kernel_rfl) (fun _ _ _ h => h) (Or.inl ⟨by kernel_rfl, ?_⟩) hHC1 ?_
          rotate_left
          · intro w' hSw
            obtain ⟨-, s0, s1, s2, s3, s4, s5⟩ := hSw
            go_simp
            try with_reducible rfl
          (try simp only [Act.put, List.setIfInBounds_toArray, List.set_cons_zero, List.set_cons_succ])
          refine takeH 4 (some 33) (v := undef) rfl rfl (by kernel_rfl) (by kernel_rfl) (by kernel_rfl) (fun _ _ _ h => h) (Or.inr ⟨by kernel_rfl, rfl⟩) hHC1 ?_
          (try simp only [Act.put, List.setIfInBounds_toArray, List.set_cons_zero, List.set_cons_succ])
          refine takeH 5 (some 34) (v := undef) rfl rfl (by kernel_rfl) (by kernel_rfl) (by kernel_rfl) (fun _ _ _ h => h) (Or.inr ⟨by kernel_rfl, rfl⟩) hHC1 ?_
          (try simp only [Act.put, List.setIfInBounds_toArray, List.set_cons_zero, List.set_cons_succ])
          refine takeH 6 (some 35) (v := undef) rfl rfl (by kernel_rfl) (by kernel_rfl) (by kernel_rfl) (fun _ _ _ h => h) (Or.inr ⟨by kernel_rfl, rfl⟩) hHC1 ?_
          (try simp only [Act.put, List.setIfInBounds_toArray, List.set_cons_zero, List.set_cons_succ])
          refine takeH 7 (some 36) (v := undef) rfl rfl (by kernel_rfl) (by kernel_rfl) (by kernel_rfl) (fun _ _ _ h => h) (Or.inr ⟨by kernel_rfl, rfl⟩) hHC1 ?_
          (try simp only [Act.put, List.setIfInBounds_toArray, List.set_cons_zero, List.set_cons_succ])
          refine takeH 8 (some 37) (v := undef) rfl rfl (by kernel_rfl) (by kernel_rfl) (by kernel_rfl) (fun _ _ _ h => h) (Or.inr ⟨by kernel_rfl, rfl⟩) hHC1 ?_
          (try simp only [Act.put, List.setIfInBounds_toArray, List.set_cons_zero, List.set_cons_succ])
          refine takeH 9 (some 38) (v := undef) rfl rfl (by kernel_rfl) (by kernel_rfl) (by kernel_rfl) (fun _ _ _ h => h) (Or.inr ⟨by kernel_rfl, rfl⟩) hHC1 ?_
          (try simp only [Act.put, List.setIfInBounds_toArray, List.set_cons_zero, List.set_cons_succ])
          refine takeH 10 (some 39) (v := undef) rfl rfl (by kernel_rfl) (by kernel_rfl) (by kernel_rfl) (fun _ _ _ h => h) (Or.inr ⟨by kernel_rfl, rfl⟩) hHC1 ?_
          (try simp only [Act.put, List.setIfInBounds_toArray, List.set_cons_zero, List.set_cons_succ])
          refine takeH 11 (some 40) (v := ?_) rfl rfl (by kernel_rfl) (by kernel_rfl) (by kernel_rfl) (fun _ _ _ h => h) (Or.inl ⟨by kernel_rfl, ?_⟩) hHC1 ?_
          rotate_left
          · intro w' hSw
            obtain ⟨-, s0, s1, s2, s3, s4, s5⟩ := hSw
            go_simp
            try with_reducible rfl
          (try simp only [Act.put, List.setIfInBounds_toArray, List.set_cons_zero, List.set_cons_succ])
          refine takeH 12 (some 41) (v := ?_) rfl rfl (by kernel_rfl) (by kernel_rfl) (by kernel_rfl) (fun _ _ _ h => h) (Or.inl ⟨by kernel_rfl, ?_⟩) hHC1 ?_
          rotate_left
          · intro w' hSw
            obtain ⟨-, s0, s1, s2, s3, s4, s5⟩ := hSw
            go_simp
            try with_reducible rfl
          (try simp only [Act.put, List.setIfInBounds_toArray, List.set_cons_zero, List.set_cons_succ])
          refine takeH 13 (some 42) (v := undef) rfl rfl (by kernel_rfl) (by kernel_rfl) (by kernel_rfl) (fun _ _ _ h => h) (Or.inr ⟨by kernel_rfl, rfl⟩) hHC1 ?_
          (try simp only [Act.put, List.setIfInBounds_toArray, List.set_cons_zero, List.set_cons_succ])
          refine takeH 14 (some 43) (v := undef) rfl rfl (by kernel_rfl) (by kernel_rfl) (by kernel_rfl) (fun _ _ _ h => h) (Or.inr ⟨by kernel_rfl, rfl⟩) hHC1 ?_
          (try simp only [Act.put, List.setIfInBounds_toArray, List.set_cons_zero, List.set_cons_succ])
          refine takeH 15 (some 44) (v := undef) rfl rfl (by kernel_rfl) (by kernel_rfl) (by kernel_rfl) (fun _ _ _ h => h) (Or.inr ⟨by kernel_rfl, rfl⟩) hHC1 ?_
          (try simp only [Act.put, List.setIfInBounds_toArray, List.set_cons_zero, List.set_cons_succ])
          refine takeH 16 (some 45) (v := undef) rfl rfl (by kernel_rfl) (by kernel_rfl) (by kernel_rfl) (fun _ _ _ h => h) (Or.inr ⟨by kernel_rfl, rfl⟩) hHC1 ?_
          (try simp only [Act.put, List.setIfInBounds_toArray, List.set_cons_zero, List.set_cons_succ])
          refine takeH 17 (some 46) (v := undef) rfl rfl (by kernel_rfl) (by kernel_rfl) (by kernel_rfl) (fun _ _ _ h => h) (Or.inr ⟨by kernel_rfl, rfl⟩) hHC1 ?_
          (try simp only [Act.put, List.setIfInBounds_toArray, List.set_cons_zero, List.set_cons_succ])
          refine takeH 18 (some 47) (v := undef) rfl rfl (by kernel_rfl) (by kernel_rfl) (by kernel_rfl) (fun _ _ _ h => h) (Or.inr ⟨by kernel_rfl, rfl⟩) hHC1 ?_
          (try simp only [Act.put, List.setIfInBounds_toArray, List.set_cons_zero, List.set_cons_succ])
          refine takeH 19 (some 48) (v := undef) rfl rfl (by kernel_rfl) (by kernel_rfl) (by kernel_rfl) (fun _ _ _ h => h) (Or.inr ⟨by kernel_rfl, rfl⟩) hHC1 ?_
          (try simp only [Act.put, List.setIfInBounds_toArray, List.set_cons_zero, List.set_cons_succ])
          refine takeH 20 (some 49) (v := undef) rfl rfl (by kernel_rfl) (by kernel_rfl) (by kernel_rfl) (fun _ _ _ h => h) (Or.inr ⟨by kernel_rfl, rfl⟩) hHC1 ?_
          (try simp only [Act.put, List.setIfInBounds_toArray, List.set_cons_zero, List.set_cons_succ])
          refine takeH 21 (some 50) (v := undef) rfl rfl (by kernel_rfl) (by kernel_rfl) (by kernel_rfl) (fun _ _ _ h => h) (Or.inr ⟨by kernel_rfl, rfl⟩) hHC1 ?_
          (try simp only [Act.put, List.setIfInBounds_toArray, List.set_cons_zero, List.set_cons_succ])
          refine takeH 22 (some 51) (v := undef) rfl rfl (by kernel_rfl) (by kernel_rfl) (by kernel_rfl) (fun _ _ _ h => h) (Or.inr ⟨by kernel_rfl, rfl⟩) hHC1 ?_
          (try simp only [Act.put, List.setIfInBounds_toArray, List.set_cons_zero, List.set_cons_succ])
          refine takeH 23 (some 52) (v := undef) rfl rfl (by kernel_rfl) (by kernel_rfl) (by kernel_rfl) (fun _ _ _ h => h) (Or.inr ⟨by kernel_rfl, rfl⟩) hHC1 ?_
          (try simp only [Act.put, List.setIfInBounds_toArray, List.set_cons_zero, List.set_cons_succ])
          refine takeH 24 (some 53) (v := ?_) rfl rfl (by kernel_rfl) (by kernel_rfl) (by kernel_rfl) (fun _ _ _ h => h) (Or.inl ⟨by kernel_rfl, ?_⟩) hHC1 ?_
          rotate_left
          · intro w' hSw
            obtain ⟨-, s0, s1, s2, s3, s4, s5⟩ := hSw
            go_simp
            try with_reducible rfl
          (try simp only [Act.put, List.setIfInBounds_toArray, List.set_cons_zero, List.set_cons_succ])
          refine wpAnyH_done (by kernel_rfl) ?_ _
          have HB7 : Hid (Below w6.heap.size w6 w7) := hHC1.1
          clear hHC1 hHC
          go_wp2_with fail
          go_roundw
          case rel => exact ⟨_, i, rfl, by show _ = _; omega, by omega, HS2.out, btr HB6.out HB7.out⟩
          case measure => show _ < _; simp only; omega
        | false =>
          by_cases hr : rr = o1
          · rw [hr] at c2 hskip htake KS
            have e4 : (o1 != o1) = false := by simp
            have e5 : (o1 == o1) = true := by simp
            have HCC := Lib.hid (fun W' hb => HCLO.out q1 q2 W' hb)
            obtain ⟨r, hr2⟩ : ∃ r, scanB o1 o2 0 (fromP L (q1, q2)) = r := ⟨_, rfl⟩
            rw [hr2] at HCC hskip
            rw [hah, e5] at hskip htake
            cases r with
            | none =>
              have hs : prP L (p1, p2) o1 o2 (i + 1) = prP L (p1, p2) o1 o2 i := hskip (.inr rfl)
              replace HCC : Hid (∀ W', Below w.heap.size w W' → Calls Tryd.prog 42 #[.slice (some ⟨b, off, none⟩) n c, .agg #[.int .i64 (q1 : Nat), .int .i64 (q2 : Nat)], .int .i32 o1, .int .i32 o2] W' fun e w' => e = .returned (.tuple #[.agg #[.int .i64 0, .int .i64 0], .bool false]) ∧ Below W'.heap.size W' w') := HCC
              have HS2 : Hid (prP L (p1, p2) o1 o2 i = res) := by show _ = _; rw [← hs]; exact HS.out
              clear hg1 hg2 hg3 hg16 hb6 hn6 hq hok hrd hxx hm hah hskip htake hs hm0 hrr hr hr2 e5
              go_wp2_with fail
              refine wp_region_held (S := fun w' => Below w6.heap.size w6 w' ∧ w'.cell? ⟨w.heap.size, 0, none⟩ = some (.int .i64 (p1 : Nat)) ∧ w'.cell? ⟨w.heap.size, 1, none⟩ = some (.int .i64 (p2 : Nat)) ∧ w'.cell? ⟨wr.heap.size, 0, none⟩ = some (.int .i64 (q1 : Nat)) ∧ w'.cell? ⟨wr.heap.size, 1, none⟩ = some (.int .i64 (q2 : Nat)) ∧ w'.cell? ⟨b, off + q1, none⟩ = some (.slice (some ⟨rb, ro, none⟩) m rc) ∧ w'.cell? ⟨rb, ro + q2, none⟩ = some (.int .i32 o1)) (by kernel_rfl) ?_
              change wpAnyH _ _ _ _ _ _ _ _ (World.drew _)
              have hHE : (fun w' => Below w6.heap.size w6 w' ∧ w'.cell? ⟨w.heap.size, 0, none⟩ = some (.int .i64 (p1 : Nat)) ∧ w'.cell? ⟨w.heap.size, 1, none⟩ = some (.int .i64 (p2 : Nat)) ∧ w'.cell? ⟨wr.heap.size, 0, none⟩ = some (.int .i64 (q1 : Nat)) ∧ w'.cell? ⟨wr.heap.size, 1, none⟩ = some (.int .i64 (q2 : Nat)) ∧ w'.cell? ⟨b, off + q1, none⟩ = some (.slice (some ⟨rb, ro, none⟩) m rc) ∧ w'.cell? ⟨rb, ro + q2, none⟩ = some (.int .i32 o1)) (World.drew w6) := KS.out _ ((Below.refl _ _).drew)
              refine takeH 0 (some 29) (v := ?_) rfl rfl (by kernel_rfl) (by kernel_rfl) (by kernel_rfl) (fun _ _ _ h => h) (Or.inl ⟨by kernel_rfl, ?_⟩) hHE ?_
              rotate_left
              · intro w' hSw
                obtain ⟨-, s0, s1, s2, s3, s4, s5⟩ := hSw
                go_simp
                try with_reducible rfl
              (try simp only [Act.put, List.setIfInBounds_toArray, List.set_cons_zero, List.set_cons_succ])
              refine takeH 1 (some 30) (v := ?_) rfl rfl (by kernel_rfl) (by kernel_rfl) (by kernel_rfl) (fun _ _ _ h => h) (Or.inl ⟨by kernel_rfl, ?_⟩) hHE ?_
              rotate_left
              · intro w' hSw
                obtain ⟨-, s0, s1, s2, s3, s4, s5⟩ := hSw
                go_simp
                try with_reducible rfl
              (try simp only [Act.put, List.setIfInBounds_toArray, List.set_cons_zero, List.set_cons_succ])
              refine callH 2 (some 31) (f := 13) (args := ?_) rfl rfl (by kernel_rfl) (by kernel_rfl) ?_ ?_
              rotate_left
              · go_simp
                try with_reducible rfl
              refine (HPQ.out _).mono ?_
              rintro e w7 ⟨rfl, hb7⟩
              have hHE1 := KS.out _ (btr hHE.1 hb7)
              refine ⟨_, rfl, hHE1, ?_⟩
              (try simp only [Act.put, List.setIfInBounds_toArray, List.set_cons_zero, List.set_cons_succ])
              refine takeH 3 (some 32) (v := ?_) rfl rfl (by kernel_rfl) (by kernel_rfl) (by kernel_rfl) (fun _ _ _ h => h) (Or.inl ⟨by kernel_rfl, ?_⟩) hHE1 ?_
              rotate_left
              · intro w' hSw
                obtain ⟨-, s0, s1, s2, s3, s4, s5⟩ := hSw
                go_simp
                try with_reducible rfl
              (try simp only [Act.put, List.setIfInBounds_toArray, List.set_cons_zero, List.set_cons_succ])
              refine takeH 4 (some 33) (v := ?_) rfl rfl (by kernel_rfl) (by kernel_rfl) (by kernel_rfl) (fun _ _ _ h => h) (Or.inl ⟨by kernel_rfl, ?_⟩) hHE1 ?_
              rotate_left
              · intro w' hSw
                obtain ⟨-, s0, s1, s2, s3, s4, s5⟩ := hSw
                go_simp
                try with_reducible rfl
              (try simp only [Act.put, List.setIfInBounds_toArray, List.set_cons_zero, List.set_cons_succ])
              refine takeH 5 (some 34) (v := ?_) rfl rfl (by kernel_rfl) (by kernel_rfl) (by kernel_rfl) (fun _ _ _ h => h) (Or.inl ⟨by kernel_rfl, ?_⟩) hHE1 ?_
              rotate_left
              · intro w' hSw
                obtain ⟨-, s0, s1, s2, s3, s4, s5⟩ := hSw
                go_simp
                try with_reducible rfl
              (try simp only [Act.put, List.setIfInBounds_toArray, List.set_cons_zero, List.set_cons_succ])
              refine takeH 6 (some 35) (v := ?_) rfl rfl (by kernel_rfl) (by kernel_rfl) (by kernel_rfl) (fun _ _ _ h => h) (Or.inl ⟨by kernel_rfl, ?_⟩) hHE1 ?_
              rotate_left
              · intro w' hSw
                obtain ⟨-, s0, s1, s2, s3, s4, s5⟩ := hSw
                go_simp
                try with_reducible rfl
              (try simp only [Act.put, List.setIfInBounds_toArray, List.set_cons_zero, List.set_cons_succ])
              refine takeH 7 (some 36) (v := ?_) rfl rfl (by kernel_rfl) (by kernel_rfl) (by kernel_rfl) (fun _ _ _ h => h) (Or.inl ⟨by kernel_rfl, ?_⟩) hHE1 ?_
              rotate_left
              · intro w' hSw
                obtain ⟨-, s0, s1, s2, s3, s4, s5⟩ := hSw
                go_simp
                try with_reducible rfl
              (try simp only [Act.put, List.setIfInBounds_toArray, List.set_cons_zero, List.set_cons_succ])
              refine takeH 8 (some 37) (v := ?_) rfl rfl (by kernel_rfl) (by kernel_rfl) (by kernel_rfl) (fun _ _ _ h => h) (Or.inl ⟨by kernel_rfl, ?_⟩) hHE1 ?_
              rotate_left
              · intro w' hSw
                obtain ⟨-, s0, s1, s2, s3, s4, s5⟩ := hSw
                go_simp
                try with_reducible rfl
              (try simp only [Act.put, List.setIfInBounds_toArray, List.set_cons_zero, List.set_cons_succ])
              refine takeH 9 (some 38) (v := ?_) rfl rfl (by kernel_rfl) (by kernel_rfl) (by kernel_rfl) (fun _ _ _ h => h) (Or.inl ⟨by kernel_rfl, ?_⟩) hHE1 ?_
              rotate_left
              · intro w' hSw
                obtain ⟨-, s0, s1, s2, s3, s4, s5⟩ := hSw
                go_simp
                try with_reducible rfl
              (try simp only [Act.put, List.setIfInBounds_toArray, List.set_cons_zero, List.set_cons_succ])
              refine takeH 10 (some 39) (v := ?_) rfl rfl (by kernel_rfl) (by kernel_rfl) (by kernel_rfl) (fun _ _ _ h => h) (Or.inl ⟨by kernel_rfl, ?_⟩) hHE1 ?_
              rotate_left
              · intro w' hSw
                obtain ⟨-, s0, s1, s2, s3, s4, s5⟩ := hSw
                go_simp
                try with_reducible rfl
              (try simp only [Act.put, List.setIfInBounds_toArray, List.set_cons_zero, List.set_cons_succ])
              refine takeH 11 (some 40) (v := ?_) rfl rfl (by kernel_rfl) (by kernel_rfl) (by kernel_rfl) (fun _ _ _ h => h) (Or.inl ⟨by kernel_rfl, ?_⟩) hHE1 ?_
              rotate_left
              · intro w' hSw
                obtain ⟨-, s0, s1, s2, s3, s4, s5⟩ := hSw
                go_simp
                try with_reducible rfl
              (try simp only [Act.put, List.setIfInBounds_toArray, List.set_cons_zero, List.set_cons_succ])
              refine takeH 12 (some 41) (v := ?_) rfl rfl (by kernel_rfl) (by kernel_rfl) (by kernel_rfl) (fun _ _ _ h => h) (Or.inl ⟨by kernel_rfl, ?_⟩) hHE1 ?_
              rotate_left
              · intro w' hSw
                obtain ⟨-, s0, s1, s2, s3, s4, s5⟩ := hSw
                go_simp
                try with_reducible rfl
              (try simp only [Act.put, List.setIfInBounds_toArray, List.set_cons_zero, List.set_cons_succ])
              refine takeH 13 (some 42) (v := ?_) rfl rfl (by kernel_rfl) (by kernel_rfl) (by kernel_rfl) (fun _ _ _ h => h) (Or.inl ⟨by kernel_rfl, ?_⟩) hHE1 ?_
              rotate_left
              · intro w' hSw
                obtain ⟨-, s0, s1, s2, s3, s4, s5⟩ := hSw
                go_simp
                try with_reducible rfl
              (try simp only [Act.put, List.setIfInBounds_toArray, List.set_cons_zero, List.set_cons_succ])
              refine takeH 14 (some 43) (v := ?_) rfl rfl (by kernel_rfl) (by kernel_rfl) (by kernel_rfl) (fun _ _ _ h => h) (Or.inl ⟨by kernel_rfl, ?_⟩) hHE1 ?_
              rotate_left
              · intro w' hSw
                obtain ⟨-, s0, s1, s2, s3, s4, s5⟩ := hSw
                go_simp
                try with_reducible rfl
              (try simp only [Act.put, List.setIfInBounds_toArray, List.set_cons_zero, List.set_cons_succ])
              refine takeH 15 (some 44) (v := ?_) rfl rfl (by kernel_rfl) (by kernel_rfl) (by kernel_rfl) (fun _ _ _ h => h) (Or.inl ⟨by kernel_rfl, ?_⟩) hHE1 ?_
              rotate_left
              · intro w' hSw
                obtain ⟨-, s0, s1, s2, s3, s4, s5⟩ := hSw
                go_simp
                try with_reducible rfl
              (try simp only [Act.put, List.setIfInBounds_toArray, List.set_cons_zero, List.set_cons_succ])
              refine takeH 16 (some 45) (v := ?_) rfl rfl (by kernel_rfl) (by kernel_rfl) (by kernel_rfl) (fun _ _ _ h => h) (Or.inl ⟨by kernel_rfl, ?_⟩) hHE1 ?_
              rotate_left
              · intro w' hSw
                obtain ⟨-, s0, s1, s2, s3, s4, s5⟩ := hSw
                go_simp
                try with_reducible rfl
              (try simp only [Act.put, List.setIfInBounds_toArray, List.set_cons_zero, List.set_cons_succ])
              refine takeH 17 (some 46) (v := ?_) rfl rfl (by kernel_rfl) (by kernel_rfl) (by kernel_rfl) (fun _ _ _ h => h) (Or.inl ⟨by kernel_rfl, ?_⟩) hHE1 ?_
              rotate_left
              · intro w' hSw
                obtain ⟨-, s0, s1, s2, s3, s4, s5⟩ := hSw
                go_simp
                try with_reducible rfl
              (try simp only [Act.put, List.setIfInBounds_toArray, List.set_cons_zero, List.set_cons_succ])
              refine takeH 18 (some 47) (v := ?_) rfl rfl (by kernel_rfl) (by kernel_rfl) (by kernel_rfl) (fun _ _ _ h => h) (Or.inl ⟨by kernel_rfl, ?_⟩) hHE1 ?_
              rotate_left
              · intro w' hSw
                obtain ⟨-, s0, s1, s2, s3, s4, s5⟩ := hSw
                go_simp
                try with_reducible rfl
              (try simp only [Act.put, List.setIfInBounds_toArray, List.set_cons_zero, List.set_cons_succ])
              refine takeH 19 (some 48) (v := ?_) rfl rfl (by kernel_rfl) (by kernel_rfl) (by kernel_rfl) (fun _ _ _ h => h) (Or.inl ⟨by kernel_rfl, ?_⟩) hHE1 ?_
              rotate_left
              · intro w' hSw
                obtain ⟨-, s0, s1, s2, s3, s4, s5⟩ := hSw
                go_simp
                try with_reducible rfl
              (try simp only [Act.put, List.setIfInBounds_toArray, List.set_cons_zero, List.set_cons_succ])
              refine takeH 20 (some 49) (v := ?_) rfl rfl (by kernel_rfl) (by kernel_rfl) (by kernel_rfl) (fun _ _ _ h => h) (Or.inl ⟨by kernel_rfl, ?_⟩) hHE1 ?_
              rotate_left
              · intro w' hSw
                obtain ⟨-, s0, s1, s2, s3, s4, s5⟩ := hSw
                go_simp
                try with_reducible rfl
              (try simp only [Act.put, List.setIfInBounds_toArray, List.set_cons_zero, List.set_cons_succ])
              refine takeH 21 (some 50) (v := ?_) rfl rfl (by kernel_rfl) (by kernel_rfl) (by kernel_rfl) (fun _ _ _ h => h) (Or.inl ⟨by kernel_rfl, ?_⟩) hHE1 ?_
              rotate_left
              · intro w' hSw
                obtain ⟨-, s0, s1, s2, s3, s4, s5⟩ := hSw
                go_simp
                try with_reducible rfl
              (try simp only [Act.put, List.setIfInBounds_toArray, List.set_cons_zero, List.set_cons_succ])
              refine takeH 22 (some 51) (v := ?_) rfl rfl (by kernel_rfl) (by kernel_rfl) (by kernel_rfl) (fun _ _ _ h => h) (Or.inl ⟨by kernel_rfl, ?_⟩) hHE1 ?_
              rotate_left
              · intro w' hSw
                obtain ⟨-, s0, s1, s2, s3, s4, s5⟩ := hSw
                go_simp
                try with_reducible rfl
              (try simp only [Act.put, List.setIfInBounds_toArray, List.set_cons_zero, List.set_cons_succ])
              refine takeH 23 (some 52) (v := ?_) rfl rfl (by kernel_rfl) (by kernel_rfl) (by kernel_rfl) (fun _ _ _ h => h) (Or.inl ⟨by kernel_rfl, ?_⟩) hHE1 ?_
              rotate_left
              · intro w' hSw
                obtain ⟨-, s0, s1, s2, s3, s4, s5⟩ := hSw
                go_simp
                try with_reducible rfl
              (try simp only [Act.put, List.setIfInBounds_toArray, List.set_cons_zero, List.set_cons_succ])
              refine takeH 24 (some 53) (v := ?_) rfl rfl (by kernel_rfl) (by kernel_rfl) (by kernel_rfl) (fun _ _ _ h => h) (Or.inl ⟨by kernel_rfl, ?_⟩) hHE1 ?_
              rotate_left
              · intro w' hSw
                obtain ⟨-, s0, s1, s2, s3, s4, s5⟩ := hSw
                go_simp
                try with_reducible rfl
              (try simp only [Act.put, List.setIfInBounds_toArray, List.set_cons_zero, List.set_cons_succ])
              refine wpAnyH_done (by kernel_rfl) ?_ _
              have HB7 : Hid (Below w6.heap.size w6 w7) := hHE1.1
              clear hHE1 hHE
              obtain ⟨-, s0, s1, s2, s3, s4, s5⟩ := KS.out _ HB7.out
              go_wp2_with (go_at_call 42; refine (HCC.out _ (btr HBW6.out HB7.out)).mono ?_; rintro e w8 ⟨rfl, hb8⟩; have HB9 := Lib.hid (btr (btr HB7.out hb8) (bal w8 (.cells #[.int .i64 0, .int .i64 0] 24))))
              go_roundw
              case rel => exact ⟨_, i, rfl, by show _ = _; omega, by omega, HS2.out, btr HB6.out HB9.out⟩
              case measure => show _ < _; simp only; omega
            | some z =>
              obtain ⟨z1, z2⟩ := z
              obtain ⟨ah2, hah2⟩ : ∃ y, aheadP (z1, z2) (p1, p2) = y := ⟨_, rfl⟩
              have HPZ := Lib.hid (fun W' => HAH.out z1 z2 p1 p2 W')
              rw [hah2] at HPZ
              replace HCC : Hid (∀ W', Below w.heap.size w W' → Calls Tryd.prog 42 #[.slice (some ⟨b, off, none⟩) n c, .agg #[.int .i64 (q1 : Nat), .int .i64 (q2 : Nat)], .int .i32 o1, .int .i32 o2] W' fun e w' => e = .returned (.tuple #[.agg #[.int .i64 (z1 : Nat), .int .i64 (z2 : Nat)], .bool true]) ∧ Below W'.heap.size W' w') := HCC
              cases ah2 with
              | true =>
                have hs : prP L (p1, p2) o1 o2 (i + 1) = prP L (p1, p2) o1 o2 i := hskip (.inr (by simp [hah2]))
                have HS2 : Hid (prP L (p1, p2) o1 o2 i = res) := by show _ = _; rw [← hs]; exact HS.out
                clear hg1 hg2 hg3 hg16 hb6 hn6 hq hok hrd hxx hm hah hskip htake hs hm0 hrr hr hr2 e5 hah2
                go_wp2_with fail
                refine wp_region_held (S := fun w' => Below w6.heap.size w6 w' ∧ w'.cell? ⟨w.heap.size, 0, none⟩ = some (.int .i64 (p1 : Nat)) ∧ w'.cell? ⟨w.heap.size, 1, none⟩ = some (.int .i64 (p2 : Nat)) ∧ w'.cell? ⟨wr.heap.size, 0, none⟩ = some (.int .i64 (q1 : Nat)) ∧ w'.cell? ⟨wr.heap.size, 1, none⟩ = some (.int .i64 (q2 : Nat)) ∧ w'.cell? ⟨b, off + q1, none⟩ = some (.slice (some ⟨rb, ro, none⟩) m rc) ∧ w'.cell? ⟨rb, ro + q2, none⟩ = some (.int .i32 o1)) (by kernel_rfl) ?_
                change wpAnyH _ _ _ _ _ _ _ _ (World.drew _)
                have hHF : (fun w' => Below w6.heap.size w6 w' ∧ w'.cell? ⟨w.heap.size, 0, none⟩ = some (.int .i64 (p1 : Nat)) ∧ w'.cell? ⟨w.heap.size, 1, none⟩ = some (.int .i64 (p2 : Nat)) ∧ w'.cell? ⟨wr.heap.size, 0, none⟩ = some (.int .i64 (q1 : Nat)) ∧ w'.cell? ⟨wr.heap.size, 1, none⟩ = some (.int .i64 (q2 : Nat)) ∧ w'.cell? ⟨b, off + q1, none⟩ = some (.slice (some ⟨rb, ro, none⟩) m rc) ∧ w'.cell? ⟨rb, ro + q2, none⟩ = some (.int .i32 o1)) (World.drew w6) := KS.out _ ((Below.refl _ _).drew)
                refine takeH 0 (some 29) (v := ?_) rfl rfl (by kernel_rfl) (by kernel_rfl) (by kernel_rfl) (fun _ _ _ h => h) (Or.inl ⟨by kernel_rfl, ?_⟩) hHF ?_
                rotate_left
                · intro w' hSw
                  obtain ⟨-, s0, s1, s2, s3, s4, s5⟩ := hSw
                  go_simp
                  try with_reducible rfl
                (try simp only [Act.put, List.setIfInBounds_toArray, List.set_cons_zero, List.set_cons_succ])
                refine takeH 1 (some 30) (v := ?_) rfl rfl (by kernel_rfl) (by kernel_rfl) (by kernel_rfl) (fun _ _ _ h => h) (Or.inl ⟨by kernel_rfl, ?_⟩) hHF ?_
                rotate_left
                · intro w' hSw
                  obtain ⟨-, s0, s1, s2, s3, s4, s5⟩ := hSw
                  go_simp
                  try with_reducible rfl
                (try simp only [Act.put, List.setIfInBounds_toArray, List.set_cons_zero, List.set_cons_succ])
                refine callH 2 (some 31) (f := 13) (args := ?_) rfl rfl (by kernel_rfl) (by kernel_rfl) ?_ ?_
                rotate_left
                · go_simp
                  try with_reducible rfl
                refine (HPQ.out _).mono ?_
                rintro e w7 ⟨rfl, hb7⟩
                have hHF1 := KS.out _ (btr hHF.1 hb7)
                refine ⟨_, rfl, hHF1, ?_⟩
                (try simp only [Act.put, List.setIfInBounds_toArray, List.set_cons_zero, List.set_cons_succ])
                refine takeH 3 (some 32) (v := ?_) rfl rfl (by kernel_rfl) (by kernel_rfl) (by kernel_rfl) (fun _ _ _ h => h) (Or.inl ⟨by kernel_rfl, ?_⟩) hHF1 ?_
                rotate_left
                · intro w' hSw
                  obtain ⟨-, s0, s1, s2, s3, s4, s5⟩ := hSw
                  go_simp
                  try with_reducible rfl
                (try simp only [Act.put, List.setIfInBounds_toArray, List.set_cons_zero, List.set_cons_succ])
                refine takeH 4 (some 33) (v := ?_) rfl rfl (by kernel_rfl) (by kernel_rfl) (by kernel_rfl) (fun _ _ _ h => h) (Or.inl ⟨by kernel_rfl, ?_⟩) hHF1 ?_
                rotate_left
                · intro w' hSw
                  obtain ⟨-, s0, s1, s2, s3, s4, s5⟩ := hSw
                  go_simp
                  try with_reducible rfl
                (try simp only [Act.put, List.setIfInBounds_toArray, List.set_cons_zero, List.set_cons_succ])
                refine takeH 5 (some 34) (v := ?_) rfl rfl (by kernel_rfl) (by kernel_rfl) (by kernel_rfl) (fun _ _ _ h => h) (Or.inl ⟨by kernel_rfl, ?_⟩) hHF1 ?_
                rotate_left
                · intro w' hSw
                  obtain ⟨-, s0, s1, s2, s3, s4, s5⟩ := hSw
                  go_simp
                  try with_reducible rfl
                (try simp only [Act.put, List.setIfInBounds_toArray, List.set_cons_zero, List.set_cons_succ])
                refine takeH 6 (some 35) (v := ?_) rfl rfl (by kernel_rfl) (by kernel_rfl) (by kernel_rfl) (fun _ _ _ h => h) (Or.inl ⟨by kernel_rfl, ?_⟩) hHF1 ?_
                rotate_left
                · intro w' hSw
                  obtain ⟨-, s0, s1, s2, s3, s4, s5⟩ := hSw
                  go_simp
                  try with_reducible rfl
                (try simp only [Act.put, List.setIfInBounds_toArray, List.set_cons_zero, List.set_cons_succ])
                refine takeH 7 (some 36) (v := ?_) rfl rfl (by kernel_rfl) (by kernel_rfl) (by kernel_rfl) (fun _ _ _ h => h) (Or.inl ⟨by kernel_rfl, ?_⟩) hHF1 ?_
                rotate_left
                · intro w' hSw
                  obtain ⟨-, s0, s1, s2, s3, s4, s5⟩ := hSw
                  go_simp
                  try with_reducible rfl
                (try simp only [Act.put, List.setIfInBounds_toArray, List.set_cons_zero, List.set_cons_succ])
                refine takeH 8 (some 37) (v := ?_) rfl rfl (by kernel_rfl) (by kernel_rfl) (by kernel_rfl) (fun _ _ _ h => h) (Or.inl ⟨by kernel_rfl, ?_⟩) hHF1 ?_
                rotate_left
                · intro w' hSw
                  obtain ⟨-, s0, s1, s2, s3, s4, s5⟩ := hSw
                  go_simp
                  try with_reducible rfl
                (try simp only [Act.put, List.setIfInBounds_toArray, List.set_cons_zero, List.set_cons_succ])
                refine takeH 9 (some 38) (v := ?_) rfl rfl (by kernel_rfl) (by kernel_rfl) (by kernel_rfl) (fun _ _ _ h => h) (Or.inl ⟨by kernel_rfl, ?_⟩) hHF1 ?_
                rotate_left
                · intro w' hSw
                  obtain ⟨-, s0, s1, s2, s3, s4, s5⟩ := hSw
                  go_simp
                  try with_reducible rfl
                (try simp only [Act.put, List.setIfInBounds_toArray, List.set_cons_zero, List.set_cons_succ])
                refine takeH 10 (some 39) (v := ?_) rfl rfl (by kernel_rfl) (by kernel_rfl) (by kernel_rfl) (fun _ _ _ h => h) (Or.inl ⟨by kernel_rfl, ?_⟩) hHF1 ?_
                rotate_left
                · intro w' hSw
                  obtain ⟨-, s0, s1, s2, s3, s4, s5⟩ := hSw
                  go_simp
                  try with_reducible rfl
                (try simp only [Act.put, List.setIfInBounds_toArray, List.set_cons_zero, List.set_cons_succ])
                refine takeH 11 (some 40) (v := ?_) rfl rfl (by kernel_rfl) (by kernel_rfl) (by kernel_rfl) (fun _ _ _ h => h) (Or.inl ⟨by kernel_rfl, ?_⟩) hHF1 ?_
                rotate_left
                · intro w' hSw
                  obtain ⟨-, s0, s1, s2, s3, s4, s5⟩ := hSw
                  go_simp
                  try with_reducible rfl
                (try simp only [Act.put, List.setIfInBounds_toArray, List.set_cons_zero, List.set_cons_succ])
                refine takeH 12 (some 41) (v := ?_) rfl rfl (by kernel_rfl) (by kernel_rfl) (by kernel_rfl) (fun _ _ _ h => h) (Or.inl ⟨by kernel_rfl, ?_⟩) hHF1 ?_
                rotate_left
                · intro w' hSw
                  obtain ⟨-, s0, s1, s2, s3, s4, s5⟩ := hSw
                  go_simp
                  try with_reducible rfl
                (try simp only [Act.put, List.setIfInBounds_toArray, List.set_cons_zero, List.set_cons_succ])
                refine takeH 13 (some 42) (v := ?_) rfl rfl (by kernel_rfl) (by kernel_rfl) (by kernel_rfl) (fun _ _ _ h => h) (Or.inl ⟨by kernel_rfl, ?_⟩) hHF1 ?_
                rotate_left
                · intro w' hSw
                  obtain ⟨-, s0, s1, s2, s3, s4, s5⟩ := hSw
                  go_simp
                  try with_reducible rfl
                (try simp only [Act.put, List.setIfInBounds_toArray, List.set_cons_zero, List.set_cons_succ])
                refine takeH 14 (some 43) (v := ?_) rfl rfl (by kernel_rfl) (by kernel_rfl) (by kernel_rfl) (fun _ _ _ h => h) (Or.inl ⟨by kernel_rfl, ?_⟩) hHF1 ?_
                rotate_left
                · intro w' hSw
                  obtain ⟨-, s0, s1, s2, s3, s4, s5⟩ := hSw
                  go_simp
                  try with_reducible rfl
                (try simp only [Act.put, List.setIfInBounds_toArray, List.set_cons_zero, List.set_cons_succ])
                refine takeH 15 (some 44) (v := ?_) rfl rfl (by kernel_rfl) (by kernel_rfl) (by kernel_rfl) (fun _ _ _ h => h) (Or.inl ⟨by kernel_rfl, ?_⟩) hHF1 ?_
                rotate_left
                · intro w' hSw
                  obtain ⟨-, s0, s1, s2, s3, s4, s5⟩ := hSw
                  go_simp
                  try with_reducible rfl
                (try simp only [Act.put, List.setIfInBounds_toArray, List.set_cons_zero, List.set_cons_succ])
                refine takeH 16 (some 45) (v := ?_) rfl rfl (by kernel_rfl) (by kernel_rfl) (by kernel_rfl) (fun _ _ _ h => h) (Or.inl ⟨by kernel_rfl, ?_⟩) hHF1 ?_
                rotate_left
                · intro w' hSw
                  obtain ⟨-, s0, s1, s2, s3, s4, s5⟩ := hSw
                  go_simp
                  try with_reducible rfl
                (try simp only [Act.put, List.setIfInBounds_toArray, List.set_cons_zero, List.set_cons_succ])
                refine takeH 17 (some 46) (v := ?_) rfl rfl (by kernel_rfl) (by kernel_rfl) (by kernel_rfl) (fun _ _ _ h => h) (Or.inl ⟨by kernel_rfl, ?_⟩) hHF1 ?_
                rotate_left
                · intro w' hSw
                  obtain ⟨-, s0, s1, s2, s3, s4, s5⟩ := hSw
                  go_simp
                  try with_reducible rfl
                (try simp only [Act.put, List.setIfInBounds_toArray, List.set_cons_zero, List.set_cons_succ])
                refine takeH 18 (some 47) (v := ?_) rfl rfl (by kernel_rfl) (by kernel_rfl) (by kernel_rfl) (fun _ _ _ h => h) (Or.inl ⟨by kernel_rfl, ?_⟩) hHF1 ?_
                rotate_left
                · intro w' hSw
                  obtain ⟨-, s0, s1, s2, s3, s4, s5⟩ := hSw
                  go_simp
                  try with_reducible rfl
                (try simp only [Act.put, List.setIfInBounds_toArray, List.set_cons_zero, List.set_cons_succ])
                refine takeH 19 (some 48) (v := ?_) rfl rfl (by kernel_rfl) (by kernel_rfl) (by kernel_rfl) (fun _ _ _ h => h) (Or.inl ⟨by kernel_rfl, ?_⟩) hHF1 ?_
                rotate_left
                · intro w' hSw
                  obtain ⟨-, s0, s1, s2, s3, s4, s5⟩ := hSw
                  go_simp
                  try with_reducible rfl
                (try simp only [Act.put, List.setIfInBounds_toArray, List.set_cons_zero, List.set_cons_succ])
                refine takeH 20 (some 49) (v := ?_) rfl rfl (by kernel_rfl) (by kernel_rfl) (by kernel_rfl) (fun _ _ _ h => h) (Or.inl ⟨by kernel_rfl, ?_⟩) hHF1 ?_
                rotate_left
                · intro w' hSw
                  obtain ⟨-, s0, s1, s2, s3, s4, s5⟩ := hSw
                  go_simp
                  try with_reducible rfl
                (try simp only [Act.put, List.setIfInBounds_toArray, List.set_cons_zero, List.set_cons_succ])
                refine takeH 21 (some 50) (v := ?_) rfl rfl (by kernel_rfl) (by kernel_rfl) (by kernel_rfl) (fun _ _ _ h => h) (Or.inl ⟨by kernel_rfl, ?_⟩) hHF1 ?_
                rotate_left
                · intro w' hSw
                  obtain ⟨-, s0, s1, s2, s3, s4, s5⟩ := hSw
                  go_simp
                  try with_reducible rfl
                (try simp only [Act.put, List.setIfInBounds_toArray, List.set_cons_zero, List.set_cons_succ])
                refine takeH 22 (some 51) (v := ?_) rfl rfl (by kernel_rfl) (by kernel_rfl) (by kernel_rfl) (fun _ _ _ h => h) (Or.inl ⟨by kernel_rfl, ?_⟩) hHF1 ?_
                rotate_left
                · intro w' hSw
                  obtain ⟨-, s0, s1, s2, s3, s4, s5⟩ := hSw
                  go_simp
                  try with_reducible rfl
                (try simp only [Act.put, List.setIfInBounds_toArray, List.set_cons_zero, List.set_cons_succ])
                refine takeH 23 (some 52) (v := ?_) rfl rfl (by kernel_rfl) (by kernel_rfl) (by kernel_rfl) (fun _ _ _ h => h) (Or.inl ⟨by kernel_rfl, ?_⟩) hHF1 ?_
                rotate_left
                · intro w' hSw
                  obtain ⟨-, s0, s1, s2, s3, s4, s5⟩ := hSw
                  go_simp
                  try with_reducible rfl
                (try simp only [Act.put, List.setIfInBounds_toArray, List.set_cons_zero, List.set_cons_succ])
                refine takeH 24 (some 53) (v := ?_) rfl rfl (by kernel_rfl) (by kernel_rfl) (by kernel_rfl) (fun _ _ _ h => h) (Or.inl ⟨by kernel_rfl, ?_⟩) hHF1 ?_
                rotate_left
                · intro w' hSw
                  obtain ⟨-, s0, s1, s2, s3, s4, s5⟩ := hSw
                  go_simp
                  try with_reducible rfl
                (try simp only [Act.put, List.setIfInBounds_toArray, List.set_cons_zero, List.set_cons_succ])
                refine wpAnyH_done (by kernel_rfl) ?_ _
                have HB7 : Hid (Below w6.heap.size w6 w7) := hHF1.1
                clear hHF1 hHF
                obtain ⟨-, s0, s1, s2, s3, s4, s5⟩ := KS.out _ HB7.out
                go_wp2_with (first
                  | (go_at_call 42; refine (HCC.out _ (btr HBW6.out HB7.out)).mono ?_; rintro e w8 ⟨rfl, hb8⟩; obtain ⟨w9, hw9⟩ : ∃ w9, w8.alloc (.cells #[.int .i64 (z1 : Nat), .int .i64 (z2 : Nat)] 24) = w9 := ⟨_, rfl⟩; have hb9 : Below w8.heap.size w8 w9 := (by rw [← hw9]; exact bal _ _); have hn9 : At w9 w8.heap.size (z1, z2) := (by rw [← hw9]; exact heap_alloc_new w8 _); obtain ⟨v0, v1, -, -⟩ := row2 hn9; simp only at v0 v1; have HB79 : Hid (Below w6.heap.size w6 w9) := btr (btr HB7.out hb8) hb9; obtain ⟨x0, x1, -, -⟩ := row2 ((HB79.out.block _ (Array.getElem?_eq_some_iff.1 G16.out).1).trans G16.out); have HN9 := Lib.hid hn9; have hs8 := HB7.out.size; have hs9 := hb8.size; have hs6 := HN6.out.lt; have n1 : ¬ w8.heap.size = w.heap.size + 1 := (by omega); have n2 : ¬ w8.heap.size = w.heap.size + 1 + 1 := (by omega); have n3 : ¬ wr.heap.size = w.heap.size + 1 := (by omega); have n4 : ¬ wr.heap.size = w.heap.size + 1 + 1 := (by omega); clear hn9 hb9 hs8 hs9 hs6)
                  | (go_at_call 13; refine (HPZ.out _).mono ?_; rintro e w10 ⟨rfl, hb10⟩; have HB10 : Hid (Below w6.heap.size w6 w10) := btr HB79.out hb10; obtain ⟨v0, v1, -, -⟩ := row2 (HN9.out.keep (hb10.block _ HN9.out.lt)); obtain ⟨u0, u1, -, -⟩ := row2 (HN6.out.keep (HB10.out.block _ HN6.out.lt)); obtain ⟨y0, y1, yf0, yf1⟩ := row2 ((HB10.out.block _ (Array.getElem?_eq_some_iff.1 G26.out).1).trans G26.out); obtain ⟨t0, t1, tf0, tf1⟩ := row2 ((HB10.out.block _ (Array.getElem?_eq_some_iff.1 G36.out).1).trans G36.out); simp only at v0 v1 u0 u1))
                go_roundw
                case rel => exact ⟨_, i, rfl, by show _ = _; omega, by omega, HS2.out, btr HB6.out HB10.out⟩
                case measure => show _ < _; simp only; omega
              | false =>
                have hs : prP L (p1, p2) o1 o2 (i + 1) = some ((q1, q2), (z1, z2)) := htake (z1, z2) hq2m (by simp [hr2, hah2]) hr2
                have HRS : Hid (res = some ((q1, q2), (z1, z2))) := by show _ = _; rw [← hs]; exact HS.out.symm
                clear hg1 hg2 hg3 hg16 hb6 hn6 hq hok hrd hxx hm hah hskip htake hs hm0 hrr hr hr2 e5 hah2
                go_wp2_with fail
                refine wp_region_held (S := fun w' => Below w6.heap.size w6 w' ∧ w'.cell? ⟨w.heap.size, 0, none⟩ = some (.int .i64 (p1 : Nat)) ∧ w'.cell? ⟨w.heap.size, 1, none⟩ = some (.int .i64 (p2 : Nat)) ∧ w'.cell? ⟨wr.heap.size, 0, none⟩ = some (.int .i64 (q1 : Nat)) ∧ w'.cell? ⟨wr.heap.size, 1, none⟩ = some (.int .i64 (q2 : Nat)) ∧ w'.cell? ⟨b, off + q1, none⟩ = some (.slice (some ⟨rb, ro, none⟩) m rc) ∧ w'.cell? ⟨rb, ro + q2, none⟩ = some (.int .i32 o1)) (by kernel_rfl) ?_
                change wpAnyH _ _ _ _ _ _ _ _ (World.drew _)
                have hHG : (fun w' => Below w6.heap.size w6 w' ∧ w'.cell? ⟨w.heap.size, 0, none⟩ = some (.int .i64 (p1 : Nat)) ∧ w'.cell? ⟨w.heap.size, 1, none⟩ = some (.int .i64 (p2 : Nat)) ∧ w'.cell? ⟨wr.heap.size, 0, none⟩ = some (.int .i64 (q1 : Nat)) ∧ w'.cell? ⟨wr.heap.size, 1, none⟩ = some (.int .i64 (q2 : Nat)) ∧ w'.cell? ⟨b, off + q1, none⟩ = some (.slice (some ⟨rb, ro, none⟩) m rc) ∧ w'.cell? ⟨rb, ro + q2, none⟩ = some (.int .i32 o1)) (World.drew w6) := KS.out _ ((Below.refl _ _).drew)
                refine takeH 0 (some 29) (v := ?_) rfl rfl (by kernel_rfl) (by kernel_rfl) (by kernel_rfl) (fun _ _ _ h => h) (Or.inl ⟨by kernel_rfl, ?_⟩) hHG ?_
                rotate_left
                · intro w' hSw
                  obtain ⟨-, s0, s1, s2, s3, s4, s5⟩ := hSw
                  go_simp
                  try with_reducible rfl
                (try simp only [Act.put, List.setIfInBounds_toArray, List.set_cons_zero, List.set_cons_succ])
                refine takeH 1 (some 30) (v := ?_) rfl rfl (by kernel_rfl) (by kernel_rfl) (by kernel_rfl) (fun _ _ _ h => h) (Or.inl ⟨by kernel_rfl, ?_⟩) hHG ?_
                rotate_left
                · intro w' hSw
                  obtain ⟨-, s0, s1, s2, s3, s4, s5⟩ := hSw
                  go_simp
                  try with_reducible rfl
                (try simp only [Act.put, List.setIfInBounds_toArray, List.set_cons_zero, List.set_cons_succ])
                refine callH 2 (some 31) (f := 13) (args := ?_) rfl rfl (by kernel_rfl) (by kernel_rfl) ?_ ?_
                rotate_left
                · go_simp
                  try with_reducible rfl
                refine (HPQ.out _).mono ?_
                rintro e w7 ⟨rfl, hb7⟩
                have hHG1 := KS.out _ (btr hHG.1 hb7)
                refine ⟨_, rfl, hHG1, ?_⟩
                (try simp only [Act.put, List.setIfInBounds_toArray, List.set_cons_zero, List.set_cons_succ])
                refine takeH 3 (some 32) (v := ?_) rfl rfl (by kernel_rfl) (by kernel_rfl) (by kernel_rfl) (fun _ _ _ h => h) (Or.inl ⟨by kernel_rfl, ?_⟩) hHG1 ?_
                rotate_left
                · intro w' hSw
                  obtain ⟨-, s0, s1, s2, s3, s4, s5⟩ := hSw
                  go_simp
                  try with_reducible rfl
                (try simp only [Act.put, List.setIfInBounds_toArray, List.set_cons_zero, List.set_cons_succ])
                refine takeH 4 (some 33) (v := ?_) rfl rfl (by kernel_rfl) (by kernel_rfl) (by kernel_rfl) (fun _ _ _ h => h) (Or.inl ⟨by kernel_rfl, ?_⟩) hHG1 ?_
                rotate_left
                · intro w' hSw
                  obtain ⟨-, s0, s1, s2, s3, s4, s5⟩ := hSw
                  go_simp
                  try with_reducible rfl
                (try simp only [Act.put, List.setIfInBounds_toArray, List.set_cons_zero, List.set_cons_succ])
                refine takeH 5 (some 34) (v := ?_) rfl rfl (by kernel_rfl) (by kernel_rfl) (by kernel_rfl) (fun _ _ _ h => h) (Or.inl ⟨by kernel_rfl, ?_⟩) hHG1 ?_
                rotate_left
                · intro w' hSw
                  obtain ⟨-, s0, s1, s2, s3, s4, s5⟩ := hSw
                  go_simp
                  try with_reducible rfl
                (try simp only [Act.put, List.setIfInBounds_toArray, List.set_cons_zero, List.set_cons_succ])
                refine takeH 6 (some 35) (v := ?_) rfl rfl (by kernel_rfl) (by kernel_rfl) (by kernel_rfl) (fun _ _ _ h => h) (Or.inl ⟨by kernel_rfl, ?_⟩) hHG1 ?_
                rotate_left
                · intro w' hSw
                  obtain ⟨-, s0, s1, s2, s3, s4, s5⟩ := hSw
                  go_simp
                  try with_reducible rfl
                (try simp only [Act.put, List.setIfInBounds_toArray, List.set_cons_zero, List.set_cons_succ])
                refine takeH 7 (some 36) (v := ?_) rfl rfl (by kernel_rfl) (by kernel_rfl) (by kernel_rfl) (fun _ _ _ h => h) (Or.inl ⟨by kernel_rfl, ?_⟩) hHG1 ?_
                rotate_left
                · intro w' hSw
                  obtain ⟨-, s0, s1, s2, s3, s4, s5⟩ := hSw
                  go_simp
                  try with_reducible rfl
                (try simp only [Act.put, List.setIfInBounds_toArray, List.set_cons_zero, List.set_cons_succ])
                refine takeH 8 (some 37) (v := ?_) rfl rfl (by kernel_rfl) (by kernel_rfl) (by kernel_rfl) (fun _ _ _ h => h) (Or.inl ⟨by kernel_rfl, ?_⟩) hHG1 ?_
                rotate_left
                · intro w' hSw
                  obtain ⟨-, s0, s1, s2, s3, s4, s5⟩ := hSw
                  go_simp
                  try with_reducible rfl
                (try simp only [Act.put, List.setIfInBounds_toArray, List.set_cons_zero, List.set_cons_succ])
                refine takeH 9 (some 38) (v := ?_) rfl rfl (by kernel_rfl) (by kernel_rfl) (by kernel_rfl) (fun _ _ _ h => h) (Or.inl ⟨by kernel_rfl, ?_⟩) hHG1 ?_
                rotate_left
                · intro w' hSw
                  obtain ⟨-, s0, s1, s2, s3, s4, s5⟩ := hSw
                  go_simp
                  try with_reducible rfl
                (try simp only [Act.put, List.setIfInBounds_toArray, List.set_cons_zero, List.set_cons_succ])
                refine takeH 10 (some 39) (v := ?_) rfl rfl (by kernel_rfl) (by kernel_rfl) (by kernel_rfl) (fun _ _ _ h => h) (Or.inl ⟨by kernel_rfl, ?_⟩) hHG1 ?_
                rotate_left
                · intro w' hSw
                  obtain ⟨-, s0, s1, s2, s3, s4, s5⟩ := hSw
                  go_simp
                  try with_reducible rfl
                (try simp only [Act.put, List.setIfInBounds_toArray, List.set_cons_zero, List.set_cons_succ])
                refine takeH 11 (some 40) (v := ?_) rfl rfl (by kernel_rfl) (by kernel_rfl) (by kernel_rfl) (fun _ _ _ h => h) (Or.inl ⟨by kernel_rfl, ?_⟩) hHG1 ?_
                rotate_left
                · intro w' hSw
                  obtain ⟨-, s0, s1, s2, s3, s4, s5⟩ := hSw
                  go_simp
                  try with_reducible rfl
                (try simp only [Act.put, List.setIfInBounds_toArray, List.set_cons_zero, List.set_cons_succ])
                refine takeH 12 (some 41) (v := ?_) rfl rfl (by kernel_rfl) (by kernel_rfl) (by kernel_rfl) (fun _ _ _ h => h) (Or.inl ⟨by kernel_rfl, ?_⟩) hHG1 ?_
                rotate_left
                · intro w' hSw
                  obtain ⟨-, s0, s1, s2, s3, s4, s5⟩ := hSw
                  go_simp
                  try with_reducible rfl
                (try simp only [Act.put, List.setIfInBounds_toArray, List.set_cons_zero, List.set_cons_succ])
                refine takeH 13 (some 42) (v := ?_) rfl rfl (by kernel_rfl) (by kernel_rfl) (by kernel_rfl) (fun _ _ _ h => h) (Or.inl ⟨by kernel_rfl, ?_⟩) hHG1 ?_
                rotate_left
                · intro w' hSw
                  obtain ⟨-, s0, s1, s2, s3, s4, s5⟩ := hSw
                  go_simp
                  try with_reducible rfl
                (try simp only [Act.put, List.setIfInBounds_toArray, List.set_cons_zero, List.set_cons_succ])
                refine takeH 14 (some 43) (v := ?_) rfl rfl (by kernel_rfl) (by kernel_rfl) (by kernel_rfl) (fun _ _ _ h => h) (Or.inl ⟨by kernel_rfl, ?_⟩) hHG1 ?_
                rotate_left
                · intro w' hSw
                  obtain ⟨-, s0, s1, s2, s3, s4, s5⟩ := hSw
                  go_simp
                  try with_reducible rfl
                (try simp only [Act.put, List.setIfInBounds_toArray, List.set_cons_zero, List.set_cons_succ])
                refine takeH 15 (some 44) (v := ?_) rfl rfl (by kernel_rfl) (by kernel_rfl) (by kernel_rfl) (fun _ _ _ h => h) (Or.inl ⟨by kernel_rfl, ?_⟩) hHG1 ?_
                rotate_left
                · intro w' hSw
                  obtain ⟨-, s0, s1, s2, s3, s4, s5⟩ := hSw
                  go_simp
                  try with_reducible rfl
                (try simp only [Act.put, List.setIfInBounds_toArray, List.set_cons_zero, List.set_cons_succ])
                refine takeH 16 (some 45) (v := ?_) rfl rfl (by kernel_rfl) (by kernel_rfl) (by kernel_rfl) (fun _ _ _ h => h) (Or.inl ⟨by kernel_rfl, ?_⟩) hHG1 ?_
                rotate_left
                · intro w' hSw
                  obtain ⟨-, s0, s1, s2, s3, s4, s5⟩ := hSw
                  go_simp
                  try with_reducible rfl
                (try simp only [Act.put, List.setIfInBounds_toArray, List.set_cons_zero, List.set_cons_succ])
                refine takeH 17 (some 46) (v := ?_) rfl rfl (by kernel_rfl) (by kernel_rfl) (by kernel_rfl) (fun _ _ _ h => h) (Or.inl ⟨by kernel_rfl, ?_⟩) hHG1 ?_
                rotate_left
                · intro w' hSw
                  obtain ⟨-, s0, s1, s2, s3, s4, s5⟩ := hSw
                  go_simp
                  try with_reducible rfl
                (try simp only [Act.put, List.setIfInBounds_toArray, List.set_cons_zero, List.set_cons_succ])
                refine takeH 18 (some 47) (v := ?_) rfl rfl (by kernel_rfl) (by kernel_rfl) (by kernel_rfl) (fun _ _ _ h => h) (Or.inl ⟨by kernel_rfl, ?_⟩) hHG1 ?_
                rotate_left
                · intro w' hSw
                  obtain ⟨-, s0, s1, s2, s3, s4, s5⟩ := hSw
                  go_simp
                  try with_reducible rfl
                (try simp only [Act.put, List.setIfInBounds_toArray, List.set_cons_zero, List.set_cons_succ])
                refine takeH 19 (some 48) (v := ?_) rfl rfl (by kernel_rfl) (by kernel_rfl) (by kernel_rfl) (fun _ _ _ h => h) (Or.inl ⟨by kernel_rfl, ?_⟩) hHG1 ?_
                rotate_left
                · intro w' hSw
                  obtain ⟨-, s0, s1, s2, s3, s4, s5⟩ := hSw
                  go_simp
                  try with_reducible rfl
                (try simp only [Act.put, List.setIfInBounds_toArray, List.set_cons_zero, List.set_cons_succ])
                refine takeH 20 (some 49) (v := ?_) rfl rfl (by kernel_rfl) (by kernel_rfl) (by kernel_rfl) (fun _ _ _ h => h) (Or.inl ⟨by kernel_rfl, ?_⟩) hHG1 ?_
                rotate_left
                · intro w' hSw
                  obtain ⟨-, s0, s1, s2, s3, s4, s5⟩ := hSw
                  go_simp
                  try with_reducible rfl
                (try simp only [Act.put, List.setIfInBounds_toArray, List.set_cons_zero, List.set_cons_succ])
                refine takeH 21 (some 50) (v := ?_) rfl rfl (by kernel_rfl) (by kernel_rfl) (by kernel_rfl) (fun _ _ _ h => h) (Or.inl ⟨by kernel_rfl, ?_⟩) hHG1 ?_
                rotate_left
                · intro w' hSw
                  obtain ⟨-, s0, s1, s2, s3, s4, s5⟩ := hSw
                  go_simp
                  try with_reducible rfl
                (try simp only [Act.put, List.setIfInBounds_toArray, List.set_cons_zero, List.set_cons_succ])
                refine takeH 22 (some 51) (v := ?_) rfl rfl (by kernel_rfl) (by kernel_rfl) (by kernel_rfl) (fun _ _ _ h => h) (Or.inl ⟨by kernel_rfl, ?_⟩) hHG1 ?_
                rotate_left
                · intro w' hSw
                  obtain ⟨-, s0, s1, s2, s3, s4, s5⟩ := hSw
                  go_simp
                  try with_reducible rfl
                (try simp only [Act.put, List.setIfInBounds_toArray, List.set_cons_zero, List.set_cons_succ])
                refine takeH 23 (some 52) (v := ?_) rfl rfl (by kernel_rfl) (by kernel_rfl) (by kernel_rfl) (fun _ _ _ h => h) (Or.inl ⟨by kernel_rfl, ?_⟩) hHG1 ?_
                rotate_left
                · intro w' hSw
                  obtain ⟨-, s0, s1, s2, s3, s4, s5⟩ := hSw
                  go_simp
                  try with_reducible rfl
                (try simp only [Act.put, List.setIfInBounds_toArray, List.set_cons_zero, List.set_cons_succ])
                refine takeH 24 (some 53) (v := ?_) rfl rfl (by kernel_rfl) (by kernel_rfl) (by kernel_rfl) (fun _ _ _ h => h) (Or.inl ⟨by kernel_rfl, ?_⟩) hHG1 ?_
                rotate_left
                · intro w' hSw
                  obtain ⟨-, s0, s1, s2, s3, s4, s5⟩ := hSw
                  go_simp
                  try with_reducible rfl
                (try simp only [Act.put, List.setIfInBounds_toArray, List.set_cons_zero, List.set_cons_succ])
                refine wpAnyH_done (by kernel_rfl) ?_ _
                have HB7 : Hid (Below w6.heap.size w6 w7) := hHG1.1
                clear hHG1 hHG
                obtain ⟨-, s0, s1, s2, s3, s4, s5⟩ := KS.out _ HB7.out
                go_wp2_with (first
                  | (go_at_call 42; refine (HCC.out _ (btr HBW6.out HB7.out)).mono ?_; rintro e w8 ⟨rfl, hb8⟩; obtain ⟨w9, hw9⟩ : ∃ w9, w8.alloc (.cells #[.int .i64 (z1 : Nat), .int .i64 (z2 : Nat)] 24) = w9 := ⟨_, rfl⟩; have hb9 : Below w8.heap.size w8 w9 := (by rw [← hw9]; exact bal _ _); have hn9 : At w9 w8.heap.size (z1, z2) := (by rw [← hw9]; exact heap_alloc_new w8 _); obtain ⟨v0, v1, -, -⟩ := row2 hn9; simp only at v0 v1; have HB79 : Hid (Below w6.heap.size w6 w9) := btr (btr HB7.out hb8) hb9; obtain ⟨x0, x1, -, -⟩ := row2 ((HB79.out.block _ (Array.getElem?_eq_some_iff.1 G16.out).1).trans G16.out); have HN9 := Lib.hid hn9; have hs8 := HB7.out.size; have hs9 := hb8.size; have hs6 := HN6.out.lt; have n1 : ¬ w8.heap.size = w.heap.size + 1 := (by omega); have n2 : ¬ w8.heap.size = w.heap.size + 1 + 1 := (by omega); have n3 : ¬ wr.heap.size = w.heap.size + 1 := (by omega); have n4 : ¬ wr.heap.size = w.heap.size + 1 + 1 := (by omega); clear hn9 hb9 hs8 hs9 hs6)
                  | (go_at_call 13; refine (HPZ.out _).mono ?_; rintro e w10 ⟨rfl, hb10⟩; have HB10 : Hid (Below w6.heap.size w6 w10) := btr HB79.out hb10; obtain ⟨v0, v1, -, -⟩ := row2 (HN9.out.keep (hb10.block _ HN9.out.lt)); obtain ⟨u0, u1, -, -⟩ := row2 (HN6.out.keep (HB10.out.block _ HN6.out.lt)); obtain ⟨y0, y1, yf0, yf1⟩ := row2 ((HB10.out.block _ (Array.getElem?_eq_some_iff.1 G26.out).1).trans G26.out); obtain ⟨t0, t1, tf0, tf1⟩ := row2 ((HB10.out.block _ (Array.getElem?_eq_some_iff.1 G36.out).1).trans G36.out); simp only at v0 v1 u0 u1))
                go_region
                all_goals
                  go_wp2_with fail
                  refine bodyPost_ret (v := .tuple #[.agg #[.int .i64 (q1 : Nat), .int .i64 (q2 : Nat)], .agg #[.int .i64 (z1 : Nat), .int .i64 (z2 : Nat)], .bool true]) ?_ rfl ⟨by rw [HRS.out]; rfl, ?_⟩
                  · rw [results_cct rfl]
                    go_simp
                  · have h2 : Below w.heap.size w w10 := btr HBW6.out HB10.out
                    (repeat' (first | exact h2 | omega | with_reducible refine Below.drew ?_ | with_reducible refine setCell_below ?_ _ _ _ ?_))
          · have hs : prP L (p1, p2) o1 o2 (i + 1) = prP L (p1, p2) o1 o2 i := hskip (.inr (by rw [show (rr == o1) = false by simp [hr]]; simp))
            have HS2 : Hid (prP L (p1, p2) o1 o2 i = res) := by show _ = _; rw [← hs]; exact HS.out
            have e4 : (rr != o1) = true := by simp [hr]
            clear hg1 hg2 hg3 hg16 hb6 hn6 hq hok hrd hxx hm hah hskip htake hs hm0 hrr hr
            go_wp2_with fail
            refine wp_region_held (S := fun w' => Below w6.heap.size w6 w' ∧ w'.cell? ⟨w.heap.size, 0, none⟩ = some (.int .i64 (p1 : Nat)) ∧ w'.cell? ⟨w.heap.size, 1, none⟩ = some (.int .i64 (p2 : Nat)) ∧ w'.cell? ⟨wr.heap.size, 0, none⟩ = some (.int .i64 (q1 : Nat)) ∧ w'.cell? ⟨wr.heap.size, 1, none⟩ = some (.int .i64 (q2 : Nat)) ∧ w'.cell? ⟨b, off + q1, none⟩ = some (.slice (some ⟨rb, ro, none⟩) m rc) ∧ w'.cell? ⟨rb, ro + q2, none⟩ = some (.int .i32 rr)) (by kernel_rfl) ?_
            change wpAnyH _ _ _ _ _ _ _ _ (World.drew _)
            have hHD : (fun w' => Below w6.heap.size w6 w' ∧ w'.cell? ⟨w.heap.size, 0, none⟩ = some (.int .i64 (p1 : Nat)) ∧ w'.cell? ⟨w.heap.size, 1, none⟩ = some (.int .i64 (p2 : Nat)) ∧ w'.cell? ⟨wr.heap.size, 0, none⟩ = some (.int .i64 (q1 : Nat)) ∧ w'.cell? ⟨wr.heap.size, 1, none⟩ = some (.int .i64 (q2 : Nat)) ∧ w'.cell? ⟨b, off + q1, none⟩ = some (.slice (some ⟨rb, ro, none⟩) m rc) ∧ w'.cell? ⟨rb, ro + q2, none⟩ = some (.int .i32 rr)) (World.drew w6) := KS.out _ ((Below.refl _ _).drew)
            refine takeH 0 (some 29) (v := ?_) rfl rfl (by kernel_rfl) (by kernel_rfl) (by kernel_rfl) (fun _ _ _ h => h) (Or.inl ⟨by kernel_rfl, ?_⟩) hHD ?_
            rotate_left
            · intro w' hSw
              obtain ⟨-, s0, s1, s2, s3, s4, s5⟩ := hSw
              go_simp
              try with_reducible rfl
            (try simp only [Act.put, List.setIfInBounds_toArray, List.set_cons_zero, List.set_cons_succ])
            refine takeH 1 (some 30) (v := ?_) rfl rfl (by kernel_rfl) (by kernel_rfl) (by kernel_rfl) (fun _ _ _ h => h) (Or.inl ⟨by kernel_rfl, ?_⟩) hHD ?_
            rotate_left
            · intro w' hSw
              obtain ⟨-, s0, s1, s2, s3, s4, s5⟩ := hSw
              go_simp
              try with_reducible rfl
            (try simp only [Act.put, List.setIfInBounds_toArray, List.set_cons_zero, List.set_cons_succ])
            refine callH 2 (some 31) (f := 13) (args := ?_) rfl rfl (by kernel_rfl) (by kernel_rfl) ?_ ?_
            rotate_left
            · go_simp
              try with_reducible rfl
            refine (HPQ.out _).mono ?_
            rintro e w7 ⟨rfl, hb7⟩
            have hHD1 := KS.out _ (btr hHD.1 hb7)
            refine ⟨_, rfl, hHD1, ?_⟩
            (try simp only [Act.put, List.setIfInBounds_toArray, List.set_cons_zero, List.set_cons_succ])
            refine takeH 3 (some 32) (v := ?_) rfl rfl (by kernel_rfl) (by kernel_rfl) (by kernel_rfl) (fun _ _ _ h => h) (Or.inl ⟨by kernel_rfl, ?_⟩) hHD1 ?_
            rotate_left
            · intro w' hSw
              obtain ⟨-, s0, s1, s2, s3, s4, s5⟩ := hSw
              go_simp
              try with_reducible rfl
            (try simp only [Act.put, List.setIfInBounds_toArray, List.set_cons_zero, List.set_cons_succ])
            refine takeH 4 (some 33) (v := ?_) rfl rfl (by kernel_rfl) (by kernel_rfl) (by kernel_rfl) (fun _ _ _ h => h) (Or.inl ⟨by kernel_rfl, ?_⟩) hHD1 ?_
            rotate_left
            · intro w' hSw
              obtain ⟨-, s0, s1, s2, s3, s4, s5⟩ := hSw
              go_simp
              try with_reducible rfl
            (try simp only [Act.put, List.setIfInBounds_toArray, List.set_cons_zero, List.set_cons_succ])
            refine takeH 5 (some 34) (v := ?_) rfl rfl (by kernel_rfl) (by kernel_rfl) (by kernel_rfl) (fun _ _ _ h => h) (Or.inl ⟨by kernel_rfl, ?_⟩) hHD1 ?_
            rotate_left
            · intro w' hSw
              obtain ⟨-, s0, s1, s2, s3, s4, s5⟩ := hSw
              go_simp
              try with_reducible rfl
            (try simp only [Act.put, List.setIfInBounds_toArray, List.set_cons_zero, List.set_cons_succ])
            refine takeH 6 (some 35) (v := ?_) rfl rfl (by kernel_rfl) (by kernel_rfl) (by kernel_rfl) (fun _ _ _ h => h) (Or.inl ⟨by kernel_rfl, ?_⟩) hHD1 ?_
            rotate_left
            · intro w' hSw
              obtain ⟨-, s0, s1, s2, s3, s4, s5⟩ := hSw
              go_simp
              try with_reducible rfl
            (try simp only [Act.put, List.setIfInBounds_toArray, List.set_cons_zero, List.set_cons_succ])
            refine takeH 7 (some 36) (v := ?_) rfl rfl (by kernel_rfl) (by kernel_rfl) (by kernel_rfl) (fun _ _ _ h => h) (Or.inl ⟨by kernel_rfl, ?_⟩) hHD1 ?_
            rotate_left
            · intro w' hSw
              obtain ⟨-, s0, s1, s2, s3, s4, s5⟩ := hSw
              go_simp
              try with_reducible rfl
            (try simp only [Act.put, List.setIfInBounds_toArray, List.set_cons_zero, List.set_cons_succ])
            refine takeH 8 (some 37) (v := ?_) rfl rfl (by kernel_rfl) (by kernel_rfl) (by kernel_rfl) (fun _ _ _ h => h) (Or.inl ⟨by kernel_rfl, ?_⟩) hHD1 ?_
            rotate_left
            · intro w' hSw
              obtain ⟨-, s0, s1, s2, s3, s4, s5⟩ := hSw
              go_simp
              try with_reducible rfl
            (try simp only [Act.put, List.setIfInBounds_toArray, List.set_cons_zero, List.set_cons_succ])
            refine takeH 9 (some 38) (v := ?_) rfl rfl (by kernel_rfl) (by kernel_rfl) (by kernel_rfl) (fun _ _ _ h => h) (Or.inl ⟨by kernel_rfl, ?_⟩) hHD1 ?_
            rotate_left
            · intro w' hSw
              obtain ⟨-, s0, s1, s2, s3, s4, s5⟩ := hSw
              go_simp
              try with_reducible rfl
            (try simp only [Act.put, List.setIfInBounds_toArray, List.set_cons_zero, List.set_cons_succ])
            refine takeH 10 (some 39) (v := ?_) rfl rfl (by kernel_rfl) (by kernel_rfl) (by kernel_rfl) (fun _ _ _ h => h) (Or.inl ⟨by kernel_rfl, ?_⟩) hHD1 ?_
            rotate_left
            · intro w' hSw
              obtain ⟨-, s0, s1, s2, s3, s4, s5⟩ := hSw
              go_simp
              try with_reducible rfl
            (try simp only [Act.put, List.setIfInBounds_toArray, List.set_cons_zero, List.set_cons_succ])
            refine takeH 11 (some 40) (v := ?_) rfl rfl (by kernel_rfl) (by kernel_rfl) (by kernel_rfl) (fun _ _ _ h => h) (Or.inl ⟨by kernel_rfl, ?_⟩) hHD1 ?_
            rotate_left
            · intro w' hSw
              obtain ⟨-, s0, s1, s2, s3, s4, s5⟩ := hSw
              go_simp
              try with_reducible rfl
            (try simp only [Act.put, List.setIfInBounds_toArray, List.set_cons_zero, List.set_cons_succ])
            refine takeH 12 (some 41) (v := ?_) rfl rfl (by kernel_rfl) (by kernel_rfl) (by kernel_rfl) (fun _ _ _ h => h) (Or.inl ⟨by kernel_rfl, ?_⟩) hHD1 ?_
            rotate_left
            · intro w' hSw
              obtain ⟨-, s0, s1, s2, s3, s4, s5⟩ := hSw
              go_simp
              try with_reducible rfl
            (try simp only [Act.put, List.setIfInBounds_toArray, List.set_cons_zero, List.set_cons_succ])
            refine takeH 13 (some 42) (v := ?_) rfl rfl (by kernel_rfl) (by kernel_rfl) (by kernel_rfl) (fun _ _ _ h => h) (Or.inl ⟨by kernel_rfl, ?_⟩) hHD1 ?_
            rotate_left
            · intro w' hSw
              obtain ⟨-, s0, s1, s2, s3, s4, s5⟩ := hSw
              go_simp
              try with_reducible rfl
            (try simp only [Act.put, List.setIfInBounds_toArray, List.set_cons_zero, List.set_cons_succ])
            refine takeH 14 (some 43) (v := ?_) rfl rfl (by kernel_rfl) (by kernel_rfl) (by kernel_rfl) (fun _ _ _ h => h) (Or.inl ⟨by kernel_rfl, ?_⟩) hHD1 ?_
            rotate_left
            · intro w' hSw
              obtain ⟨-, s0, s1, s2, s3, s4, s5⟩ := hSw
              go_simp
              try with_reducible rfl
            (try simp only [Act.put, List.setIfInBounds_toArray, List.set_cons_zero, List.set_cons_succ])
            refine takeH 15 (some 44) (v := ?_) rfl rfl (by kernel_rfl) (by kernel_rfl) (by kernel_rfl) (fun _ _ _ h => h) (Or.inl ⟨by kernel_rfl, ?_⟩) hHD1 ?_
            rotate_left
            · intro w' hSw
              obtain ⟨-, s0, s1, s2, s3, s4, s5⟩ := hSw
              go_simp
              try with_reducible rfl
            (try simp only [Act.put, List.setIfInBounds_toArray, List.set_cons_zero, List.set_cons_succ])
            refine takeH 16 (some 45) (v := ?_) rfl rfl (by kernel_rfl) (by kernel_rfl) (by kernel_rfl) (fun _ _ _ h => h) (Or.inl ⟨by kernel_rfl, ?_⟩) hHD1 ?_
            rotate_left
            · intro w' hSw
              obtain ⟨-, s0, s1, s2, s3, s4, s5⟩ := hSw
              go_simp
              try with_reducible rfl
            (try simp only [Act.put, List.setIfInBounds_toArray, List.set_cons_zero, List.set_cons_succ])
            refine takeH 17 (some 46) (v := ?_) rfl rfl (by kernel_rfl) (by kernel_rfl) (by kernel_rfl) (fun _ _ _ h => h) (Or.inl ⟨by kernel_rfl, ?_⟩) hHD1 ?_
            rotate_left
            · intro w' hSw
              obtain ⟨-, s0, s1, s2, s3, s4, s5⟩ := hSw
              go_simp
              try with_reducible rfl
            (try simp only [Act.put, List.setIfInBounds_toArray, List.set_cons_zero, List.set_cons_succ])
            refine takeH 18 (some 47) (v := ?_) rfl rfl (by kernel_rfl) (by kernel_rfl) (by kernel_rfl) (fun _ _ _ h => h) (Or.inl ⟨by kernel_rfl, ?_⟩) hHD1 ?_
            rotate_left
            · intro w' hSw
              obtain ⟨-, s0, s1, s2, s3, s4, s5⟩ := hSw
              go_simp
              try with_reducible rfl
            (try simp only [Act.put, List.setIfInBounds_toArray, List.set_cons_zero, List.set_cons_succ])
            refine takeH 19 (some 48) (v := ?_) rfl rfl (by kernel_rfl) (by kernel_rfl) (by kernel_rfl) (fun _ _ _ h => h) (Or.inl ⟨by kernel_rfl, ?_⟩) hHD1 ?_
            rotate_left
            · intro w' hSw
              obtain ⟨-, s0, s1, s2, s3, s4, s5⟩ := hSw
              go_simp
              try with_reducible rfl
            (try simp only [Act.put, List.setIfInBounds_toArray, List.set_cons_zero, List.set_cons_succ])
            refine takeH 20 (some 49) (v := ?_) rfl rfl (by kernel_rfl) (by kernel_rfl) (by kernel_rfl) (fun _ _ _ h => h) (Or.inl ⟨by kernel_rfl, ?_⟩) hHD1 ?_
            rotate_left
            · intro w' hSw
              obtain ⟨-, s0, s1, s2, s3, s4, s5⟩ := hSw
              go_simp
              try with_reducible rfl
            (try simp only [Act.put, List.setIfInBounds_toArray, List.set_cons_zero, List.set_cons_succ])
            refine takeH 21 (some 50) (v := ?_) rfl rfl (by kernel_rfl) (by kernel_rfl) (by kernel_rfl) (fun _ _ _ h => h) (Or.inl ⟨by kernel_rfl, ?_⟩) hHD1 ?_
            rotate_left
            · intro w' hSw
              obtain ⟨-, s0, s1, s2, s3, s4, s5⟩ := hSw
              go_simp
              try with_reducible rfl
            (try simp only [Act.put, List.setIfInBounds_toArray, List.set_cons_zero, List.set_cons_succ])
            refine takeH 22 (some 51) (v := ?_) rfl rfl (by kernel_rfl) (by kernel_rfl) (by kernel_rfl) (fun _ _ _ h => h) (Or.inl ⟨by kernel_rfl, ?_⟩) hHD1 ?_
            rotate_left
            · intro w' hSw
              obtain ⟨-, s0, s1, s2, s3, s4, s5⟩ := hSw
              go_simp
              try with_reducible rfl
            (try simp only [Act.put, List.setIfInBounds_toArray, List.set_cons_zero, List.set_cons_succ])
            refine takeH 23 (some 52) (v := ?_) rfl rfl (by kernel_rfl) (by kernel_rfl) (by kernel_rfl) (fun _ _ _ h => h) (Or.inl ⟨by kernel_rfl, ?_⟩) hHD1 ?_
            rotate_left
            · intro w' hSw
              obtain ⟨-, s0, s1, s2, s3, s4, s5⟩ := hSw
              go_simp
              try with_reducible rfl
            (try simp only [Act.put, List.setIfInBounds_toArray, List.set_cons_zero, List.set_cons_succ])
            refine takeH 24 (some 53) (v := ?_) rfl rfl (by kernel_rfl) (by kernel_rfl) (by kernel_rfl) (fun _ _ _ h => h) (Or.inl ⟨by kernel_rfl, ?_⟩) hHD1 ?_
            rotate_left
            · intro w' hSw
              obtain ⟨-, s0, s1, s2, s3, s4, s5⟩ := hSw
              go_simp
              try with_reducible rfl
            (try simp only [Act.put, List.setIfInBounds_toArray, List.set_cons_zero, List.set_cons_succ])
            refine wpAnyH_done (by kernel_rfl) ?_ _
            have HB7 : Hid (Below w6.heap.size w6 w7) := hHD1.1
            clear hHD1 hHD
            go_wp2_with fail
            go_roundw
            case rel => exact ⟨_, i, rfl, by show _ = _; omega, by omega, HS2.out, btr HB6.out HB7.out⟩
            case measure => show _ < _; simp only; omega
    · have hv : v = -1 := by have := HV.out; omega
      subst hv
      have HRS : Hid (res = none) := by
        show _ = _
        rw [← HS.out, show j0 = 0 by omega]; rfl
      obtain ⟨y0, y1, yf0, yf1⟩ := row2 hg2
      obtain ⟨t0, t1, tf0, tf1⟩ := row2 hg3
      have HBE : Hid (Below w.heap.size w wr) := btr HB3.out HB.out
      clear hg1 hg2 hg3
      go_wp2_with fail
      refine bodyPost_ret (v := .tuple #[.agg #[.int .i64 0, .int .i64 0], .agg #[.int .i64 0, .int .i64 0], .bool false]) ?_ rfl ⟨by rw [HRS.out]; rfl, ?_⟩
      · rw [results_cct rfl]
        go_simp
      · (repeat' (first | exact HBE.out | omega | refine setCell_below ?_ _ _ _ ?_))
end Go.Proofs.YthlhgkeodaifcaaDoor.U
