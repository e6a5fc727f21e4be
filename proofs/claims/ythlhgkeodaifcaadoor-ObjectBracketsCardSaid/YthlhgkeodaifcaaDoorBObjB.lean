/-
  A row's parts and object, over the closure block$1. (MADE by wip/tools/gen_bobj.py.)
-/
import Derived.Test.YthlhgkeodaifcaaDoorBRowB
import Derived.Test.YthlhgkeodaifcaaDoorBObjP
namespace Go.Proofs.YthlhgkeodaifcaaDoor.U
open Go.RowKit
set_option linter.unusedVariables false
set_option linter.unusedSimpArgs false
set_option maxRecDepth 100000

set_option maxHeartbeats 1000000 in
theorem parts_B (Ba : Nat) (g : Nat → Int) (n : Nat) (w : World) (hn : n ≤ 9223372036854775807)
    (hcl : ∀ (k : Nat) (W : World), k < n → Below w.heap.size w W → Calls Tryd.prog 39 #[.int .i64 (k : Nat), .pointer (some ⟨Ba, 0, none⟩)] W fun e w' => e = .returned (.int .i64 (g k)) ∧ Below W.heap.size W w') (v : Int) (hv : i64b v) :
    Calls Tryd.prog 45 #[.agg #[.int .i64 (n : Nat), .func (.func 39) #[] #[.pointer (some ⟨Ba, 0, none⟩)]], .int .i64 v] w fun e w' => e = .returned (.bool (partB g n v)) ∧ Below w.heap.size w w' := by
  obtain ⟨w1, hw1, hsz, g1, hb1⟩ := one1 w (.cells #[.int .i64 (n : Nat), .func (.func 39) #[] #[.pointer (some ⟨Ba, 0, none⟩)]] 68)
  obtain ⟨x0, x1⟩ := rowF g1
  have HW1 := Lib.hid hw1
  have HB1 := Lib.hid hb1
  have HC := Lib.hid hcl
  clear hw1 hb1 g1 hsz hcl
  by_cases h0 : 0 ≤ v
  · obtain ⟨k, rfl⟩ : ∃ k : Nat, v = (k : Int) := ⟨v.toNat, by omega⟩
    by_cases h1 : k < n
    · have d1 : (k : Int) < (n : Int) := by omega
      have d2 : decide ((k : Int) < (n : Int)) = true := by simp; omega
      have d3 : decide (k < n) = true := by simp; omega
      obtain ⟨gk, hgk⟩ : ∃ y, g k = y := ⟨_, rfl⟩
      obtain ⟨b, hb⟩ : ∃ b, (gk == 0) = b := ⟨_, rfl⟩
      have HR : Hid (partB g n (k : Int) = b) := by
        show _ = _
        unfold partB
        rw [Int.toNat_natCast, hgk, hb]
        simp [d1]
      have HGK := Lib.hid hgk
      clear hgk h0
      go_enter Tryd.func45, Tryd.ntmps45
      go_upto_region 1 with fail
      rw [HW1.out]
      go_wp2_with (go_at_call 39; refine (HC.out k _ h1 HB1.out).mono ?_; rintro e w5 ⟨rfl, hb5⟩; rw [HGK.out])
      go_ret
      exact ⟨by rw [HR.out]; rfl, btr HB1.out hb5⟩
    · have d1 : ¬ (k : Int) < (n : Int) := by omega
      have d2 : decide ((k : Int) < (n : Int)) = false := by simp; omega
      have d3 : decide (k < n) = false := by simp; omega
      have HR : Hid (partB g n (k : Int) = false) := by
        show _ = _
        unfold partB
        simp [d2]
        omega
      clear h0
      go_enter Tryd.func45, Tryd.ntmps45
      go_upto_region 1 with fail
      rw [HW1.out]
      go_wp2_with fail
      go_ret
      exact ⟨by rw [HR.out]; rfl, HB1.out⟩
  · have d2 : decide (0 ≤ v) = false := by simp; omega
    have HR : Hid (partB g n v = false) := by
      show _ = _
      unfold partB
      rw [d2]
      rfl
    go_enter Tryd.func45, Tryd.ntmps45
    go_upto_region 1 with fail
    rw [HW1.out]
    go_wp2_with fail
    go_ret
    exact ⟨by rw [HR.out]; rfl, HB1.out⟩
def spVB (r : Option (Nat × Nat)) : Value := .tuple #[.agg #[.int .i64 (spP r).1, .int .i64 (spP r).2.1], .bool (spP r).2.2]
set_option maxHeartbeats 2000000 in
theorem object_B (Ba : Nat) (g : Nat → Int) (n : Nat) (w : World) (hn : n ≤ 9223372036854775807)
    (hcl : ∀ (k : Nat) (W : World), k < n → Below w.heap.size w W → Calls Tryd.prog 39 #[.int .i64 (k : Nat), .pointer (some ⟨Ba, 0, none⟩)] W fun e w' => e = .returned (.int .i64 (g k)) ∧ Below W.heap.size W w') (i : Nat) (around : Bool) (hi : i < n) :
    Calls Tryd.prog 37 #[.agg #[.int .i64 (n : Nat), .func (.func 39) #[] #[.pointer (some ⟨Ba, 0, none⟩)]], .int .i64 (i : Nat), .bool around] w fun e w' => e = .returned (spVB (objP g n i around)) ∧ Below w.heap.size w w' := by
  obtain ⟨p1, p2, p3, -⟩ := span_props g hi
  obtain ⟨⟨fr, tl⟩, hs⟩ : ∃ y, spanC g n i = y := ⟨_, rfl⟩
  rw [hs] at p1 p2 p3
  simp only at p1 p2 p3
  obtain ⟨te, hte⟩ : ∃ te, tl + 1 = te := ⟨_, rfl⟩
  obtain ⟨V, hV⟩ : ∃ V, spVB (objP g n i around) = V := ⟨_, rfl⟩
  rw [hV]
  unfold objP at hV
  rw [hs] at hV
  simp only [hte] at hV
  have HR1 : Hid (∀ W, Below w.heap.size w W → Calls Tryd.prog 44 #[.agg #[.int .i64 (n : Nat), .func (.func 39) #[] #[.pointer (some ⟨Ba, 0, none⟩)]], .int .i64 (i : Nat)] W fun e w' => e = .returned (.agg #[.int .i64 (fr : Nat), .int .i64 (te : Nat)]) ∧ Below W.heap.size W w') :=
    fun W hW => run_B Ba g n W hn (fun k W2 hk hb => hcl k W2 hk (btr hW hb)) i fr te hi (by rw [hs]) (by rw [hs]; exact hte)
  have HRN : Hid (∀ (j f t : Nat) W, j < n → (spanC g n j).1 = f → (spanC g n j).2 + 1 = t → Below w.heap.size w W → Calls Tryd.prog 44 #[.agg #[.int .i64 (n : Nat), .func (.func 39) #[] #[.pointer (some ⟨Ba, 0, none⟩)]], .int .i64 (j : Nat)] W fun e w' => e = .returned (.agg #[.int .i64 (f : Nat), .int .i64 (t : Nat)]) ∧ Below W.heap.size W w') :=
    fun j f t W hj hf ht hW => run_B Ba g n W hn (fun k W2 hk hb => hcl k W2 hk (btr hW hb)) j f t hj hf ht
  have HP : Hid (∀ (v : Int) W, i64b v → Below w.heap.size w W → Calls Tryd.prog 45 #[.agg #[.int .i64 (n : Nat), .func (.func 39) #[] #[.pointer (some ⟨Ba, 0, none⟩)]], .int .i64 v] W fun e w' => e = .returned (.bool (partB g n v)) ∧ Below W.heap.size W w') :=
    fun v W hv hW => parts_B Ba g n W hn (fun k W2 hk hb => hcl k W2 hk (btr hW hb)) v hv
  have HC := Lib.hid hcl
  obtain ⟨gi, hgi⟩ : ∃ y, g i = y := ⟨_, rfl⟩
  rw [hgi] at hV
  have HGI := Lib.hid hgi
  have HTE := Lib.hid hte
  have hten : te ≤ n := by omega
  have hfrn : fr < n := by omega
  have c1 : (fr : Int) ≤ 9223372036854775807 := by omega
  have c2 : (te : Int) ≤ 9223372036854775807 := by omega
  obtain ⟨w1, hw1, hsz, g1, g2, hb1⟩ := two2 w (.cells #[.int .i64 (n : Nat), .func (.func 39) #[] #[.pointer (some ⟨Ba, 0, none⟩)]] 68) (.cells #[.int .i64 0, .int .i64 0] 70)
  obtain ⟨x0, x1⟩ := rowF g1
  have HW1 := Lib.hid hw1
  have HB1 := Lib.hid hb1
  have G1 := Lib.hid g1
  have G2 := Lib.hid g2
  have HSS := Lib.hid hs
  clear hcl hw1 hb1 g1 g2 hsz hgi hs hte p1 p2 p3
  cases around with
  | false =>
    rw [if_pos rfl] at hV
    have HV : Hid (V = .tuple #[.agg #[.int .i64 (fr : Nat), .int .i64 (te : Nat)], .bool true]) := by show _ = _; rw [← hV, ← HTE.out]; rfl
    clear hV
    go_enter Tryd.func37, Tryd.ntmps37
    go_upto_region 1 with fail
    rw [HW1.out]
    go_upto_region 2 with (go_at_call 44; refine (HR1.out _ HB1.out).mono ?_; rintro e w3 ⟨rfl, hb3⟩)
    obtain ⟨w4, hw4, hsz4, g4, hb4⟩ := one1 w3 (.cells #[.int .i64 (fr : Nat), .int .i64 (te : Nat)] 70)
    rw [hw4]
    obtain ⟨S, hS⟩ : ∃ S, w3.heap.size = S := ⟨_, rfl⟩
    rw [hS] at g4
    rw [hS]
    have HS : Hid (RnS w (.cells #[.int .i64 (n : Nat), .func (.func 39) #[] #[.pointer (some ⟨Ba, 0, none⟩)]] 68 (0, 0)) S (fr : Nat) (te : Nat) w4) := by
      have h34 := btr hb3 hb4
      have hg2 := keepO G2.out hb3
      exact ⟨btr HB1.out h34, keepO G1.out h34, keepO G2.out h34, g4, by rw [← hS]; exact (Array.getElem?_eq_some_iff.1 hg2).1⟩
    clear hw4 hsz4 g4 hb4 hb3 x0 x1 hS
    obtain ⟨x0, x1⟩ := HS.out.row
    obtain ⟨s0, s1, sf0, sf1⟩ := HS.out.span
    obtain ⟨r0, r1, rf0, rf1⟩ := HS.out.res
    have nS0 : ¬ S = w.heap.size := by have := HS.out.2.2.2.2; omega
    have nS1 : ¬ S = w.heap.size + 1 := by have := HS.out.2.2.2.2; omega
    have nS2 : ¬ w.heap.size + 1 = S := by have := HS.out.2.2.2.2; omega
    go_wp2_with fail
    refine bodyPost_ret (v := .tuple #[.agg #[.int .i64 (fr : Nat), .int .i64 (te : Nat)], .bool true]) ?_ rfl ⟨by rw [HV.out], ?_⟩
    · rw [results_ct rfl]
      go_simp
    · exact RnS.ends (HS.out) _ _
  | true =>
    rw [if_neg (by decide)] at hV
    by_cases h0 : gi = 0
    · rw [if_pos h0] at hV
      have e0 : (gi == 0) = true := by simp [h0]
      by_cases hen : te = n
      · rw [if_pos hen] at hV
        have HV : Hid (V = .tuple #[.agg #[.int .i64 0, .int .i64 0], .bool false]) := by show _ = _; rw [← hV]; rfl
        have e1 : ((te : Int) == (n : Int)) = true := by simp; omega
        have e2 : (te == n) = true := by simp; omega
        clear hV h0 hen
        go_enter Tryd.func37, Tryd.ntmps37
        go_upto_region 1 with fail
        rw [HW1.out]
        go_upto_region 2 with (go_at_call 44; refine (HR1.out _ HB1.out).mono ?_; rintro e w3 ⟨rfl, hb3⟩)
        obtain ⟨w4, hw4, hsz4, g4, hb4⟩ := one1 w3 (.cells #[.int .i64 (fr : Nat), .int .i64 (te : Nat)] 70)
        rw [hw4]
        obtain ⟨S, hS⟩ : ∃ S, w3.heap.size = S := ⟨_, rfl⟩
        rw [hS] at g4
        rw [hS]
        have HS : Hid (RnS w (.cells #[.int .i64 (n : Nat), .func (.func 39) #[] #[.pointer (some ⟨Ba, 0, none⟩)]] 68 (0, 0)) S (fr : Nat) (te : Nat) w4) := by
          have h34 := btr hb3 hb4
          have hg2 := keepO G2.out hb3
          exact ⟨btr HB1.out h34, keepO G1.out h34, keepO G2.out h34, g4, by rw [← hS]; exact (Array.getElem?_eq_some_iff.1 hg2).1⟩
        clear hw4 hsz4 g4 hb4 hb3 x0 x1 hS
        obtain ⟨x0, x1⟩ := HS.out.row
        obtain ⟨s0, s1, sf0, sf1⟩ := HS.out.span
        obtain ⟨r0, r1, rf0, rf1⟩ := HS.out.res
        have nS0 : ¬ S = w.heap.size := by have := HS.out.2.2.2.2; omega
        have nS1 : ¬ S = w.heap.size + 1 := by have := HS.out.2.2.2.2; omega
        have nS2 : ¬ w.heap.size + 1 = S := by have := HS.out.2.2.2.2; omega
        have tkHS1 : True := trivial
        go_wp2_with (go_at_call 39; have _t := tkHS1; refine (HC.out i _ hi HS.out.1).mono ?_; rintro e wW ⟨rfl, hbW⟩; rw [HGI.out]; have hsW := HS.out.below hbW; obtain ⟨x0, x1⟩ := hsW.row; obtain ⟨s0, s1, sf0, sf1⟩ := hsW.span; obtain ⟨r0, r1, rf0, rf1⟩ := hsW.res; have HS1 := Lib.hid hsW; clear hsW hbW; clear tkHS1 _t)
        refine bodyPost_ret (v := .tuple #[.agg #[.int .i64 0, .int .i64 0], .bool false]) ?_ rfl ⟨by rw [HV.out], ?_⟩
        · rw [results_ct rfl]
          go_simp
        · exact HS1.out.ends _ _
      · rw [if_neg hen] at hV
        have e1 : ((te : Int) == (n : Int)) = false := by simp; omega
        have e2 : (te == n) = false := by simp; omega
        have hlt : te < n := by omega
        obtain ⟨t2, ht2⟩ : ∃ t, (spanC g n te).2 + 1 = t := ⟨_, rfl⟩
        obtain ⟨f2, hf2⟩ : ∃ t, (spanC g n te).1 = t := ⟨_, rfl⟩
        have HV : Hid (V = .tuple #[.agg #[.int .i64 (fr : Nat), .int .i64 (t2 : Nat)], .bool true]) := by show _ = _; rw [← hV, ← ht2]; rfl
        have hfd1 : ∀ w : World, (Instr.field 70 (.agg #[.int .i64 (f2 : Nat), .int .i64 (t2 : Nat)]) 1).run Tryd.prog w = .ok (.int .i64 (t2 : Nat)) w := fun _ => by kernel_rfl
        have hfd0 : ∀ w : World, (Instr.field 70 (.agg #[.int .i64 (f2 : Nat), .int .i64 (t2 : Nat)]) 0).run Tryd.prog w = .ok (.int .i64 (f2 : Nat)) w := fun _ => by kernel_rfl
        have HT2 := Lib.hid ht2
        have HF2 := Lib.hid hf2
        clear hV h0 hen ht2 hf2
        go_enter Tryd.func37, Tryd.ntmps37
        go_upto_region 1 with fail
        rw [HW1.out]
        go_upto_region 2 with (go_at_call 44; refine (HR1.out _ HB1.out).mono ?_; rintro e w3 ⟨rfl, hb3⟩)
        obtain ⟨w4, hw4, hsz4, g4, hb4⟩ := one1 w3 (.cells #[.int .i64 (fr : Nat), .int .i64 (te : Nat)] 70)
        rw [hw4]
        obtain ⟨S, hS⟩ : ∃ S, w3.heap.size = S := ⟨_, rfl⟩
        rw [hS] at g4
        rw [hS]
        have HS : Hid (RnS w (.cells #[.int .i64 (n : Nat), .func (.func 39) #[] #[.pointer (some ⟨Ba, 0, none⟩)]] 68 (0, 0)) S (fr : Nat) (te : Nat) w4) := by
          have h34 := btr hb3 hb4
          have hg2 := keepO G2.out hb3
          exact ⟨btr HB1.out h34, keepO G1.out h34, keepO G2.out h34, g4, by rw [← hS]; exact (Array.getElem?_eq_some_iff.1 hg2).1⟩
        clear hw4 hsz4 g4 hb4 hb3 x0 x1 hS
        obtain ⟨x0, x1⟩ := HS.out.row
        obtain ⟨s0, s1, sf0, sf1⟩ := HS.out.span
        obtain ⟨r0, r1, rf0, rf1⟩ := HS.out.res
        have nS0 : ¬ S = w.heap.size := by have := HS.out.2.2.2.2; omega
        have nS1 : ¬ S = w.heap.size + 1 := by have := HS.out.2.2.2.2; omega
        have nS2 : ¬ w.heap.size + 1 = S := by have := HS.out.2.2.2.2; omega
        have tkHS1 : True := trivial
        have tkHS2 : True := trivial
        go_wp2_with (first
          | (go_at_call 39; have _t := tkHS1; refine (HC.out i _ hi HS.out.1).mono ?_; rintro e wW ⟨rfl, hbW⟩; rw [HGI.out]; have hsW := HS.out.below hbW; obtain ⟨x0, x1⟩ := hsW.row; obtain ⟨s0, s1, sf0, sf1⟩ := hsW.span; obtain ⟨r0, r1, rf0, rf1⟩ := hsW.res; have HS1 := Lib.hid hsW; clear hsW hbW; clear tkHS1 _t)
          | (go_at_call 44; have _t := tkHS2; refine (HRN.out te f2 t2 _ hlt HF2.out HT2.out HS1.out.1).mono ?_; rintro e wW ⟨rfl, hbW⟩; have hsW := HS1.out.below hbW; obtain ⟨x0, x1⟩ := hsW.row; obtain ⟨s0, s1, sf0, sf1⟩ := hsW.span; obtain ⟨r0, r1, rf0, rf1⟩ := hsW.res; have HS2 := Lib.hid hsW; clear hsW hbW; clear tkHS2 _t))
        refine bodyPost_ret (v := .tuple #[.agg #[.int .i64 (fr : Nat), .int .i64 (t2 : Nat)], .bool true]) ?_ rfl ⟨by rw [HV.out], ?_⟩
        · rw [results_ct rfl]
          go_simp
        · exact RnS.ends (HS2.out.setT _) _ _
    · rw [if_neg h0] at hV
      have e0 : (gi == 0) = false := by simp [h0]
      obtain ⟨pb, hpb⟩ : ∃ b, partB g n (te : Int) = b := ⟨_, rfl⟩
      rw [hpb] at hV
      have HPB : Hid (i64b (te : Int) ∧ partB g n (te : Int) = pb) := ⟨⟨by omega, by omega⟩, hpb⟩
      cases pb with
      | true =>
        rw [if_pos rfl] at hV
        obtain ⟨hlt, -⟩ := part_nat.1 hpb
        obtain ⟨t2, ht2⟩ : ∃ t, (spanC g n te).2 + 1 = t := ⟨_, rfl⟩
        obtain ⟨f2, hf2⟩ : ∃ t, (spanC g n te).1 = t := ⟨_, rfl⟩
        have HV : Hid (V = .tuple #[.agg #[.int .i64 (fr : Nat), .int .i64 (t2 : Nat)], .bool true]) := by show _ = _; rw [← hV, ← ht2]; rfl
        have hfd1 : ∀ w : World, (Instr.field 70 (.agg #[.int .i64 (f2 : Nat), .int .i64 (t2 : Nat)]) 1).run Tryd.prog w = .ok (.int .i64 (t2 : Nat)) w := fun _ => by kernel_rfl
        have hfd0 : ∀ w : World, (Instr.field 70 (.agg #[.int .i64 (f2 : Nat), .int .i64 (t2 : Nat)]) 0).run Tryd.prog w = .ok (.int .i64 (f2 : Nat)) w := fun _ => by kernel_rfl
        have HT2 := Lib.hid ht2
        have HF2 := Lib.hid hf2
        clear hV h0 hpb ht2 hf2
        go_enter Tryd.func37, Tryd.ntmps37
        go_upto_region 1 with fail
        rw [HW1.out]
        go_upto_region 2 with (go_at_call 44; refine (HR1.out _ HB1.out).mono ?_; rintro e w3 ⟨rfl, hb3⟩)
        obtain ⟨w4, hw4, hsz4, g4, hb4⟩ := one1 w3 (.cells #[.int .i64 (fr : Nat), .int .i64 (te : Nat)] 70)
        rw [hw4]
        obtain ⟨S, hS⟩ : ∃ S, w3.heap.size = S := ⟨_, rfl⟩
        rw [hS] at g4
        rw [hS]
        have HS : Hid (RnS w (.cells #[.int .i64 (n : Nat), .func (.func 39) #[] #[.pointer (some ⟨Ba, 0, none⟩)]] 68 (0, 0)) S (fr : Nat) (te : Nat) w4) := by
          have h34 := btr hb3 hb4
          have hg2 := keepO G2.out hb3
          exact ⟨btr HB1.out h34, keepO G1.out h34, keepO G2.out h34, g4, by rw [← hS]; exact (Array.getElem?_eq_some_iff.1 hg2).1⟩
        clear hw4 hsz4 g4 hb4 hb3 x0 x1 hS
        obtain ⟨x0, x1⟩ := HS.out.row
        obtain ⟨s0, s1, sf0, sf1⟩ := HS.out.span
        obtain ⟨r0, r1, rf0, rf1⟩ := HS.out.res
        have nS0 : ¬ S = w.heap.size := by have := HS.out.2.2.2.2; omega
        have nS1 : ¬ S = w.heap.size + 1 := by have := HS.out.2.2.2.2; omega
        have nS2 : ¬ w.heap.size + 1 = S := by have := HS.out.2.2.2.2; omega
        have tkHS1 : True := trivial
        have tkHS2 : True := trivial
        have tkHS3 : True := trivial
        go_wp2_with (first
          | (go_at_call 39; have _t := tkHS1; refine (HC.out i _ hi HS.out.1).mono ?_; rintro e wW ⟨rfl, hbW⟩; rw [HGI.out]; have hsW := HS.out.below hbW; obtain ⟨x0, x1⟩ := hsW.row; obtain ⟨s0, s1, sf0, sf1⟩ := hsW.span; obtain ⟨r0, r1, rf0, rf1⟩ := hsW.res; have HS1 := Lib.hid hsW; clear hsW hbW; clear tkHS1 _t)
          | (go_at_call 45; have _t := tkHS2; refine (HP.out _ _ HPB.out.1 HS1.out.1).mono ?_; rintro e wW ⟨rfl, hbW⟩; rw [HPB.out.2]; have hsW := HS1.out.below hbW; obtain ⟨x0, x1⟩ := hsW.row; obtain ⟨s0, s1, sf0, sf1⟩ := hsW.span; obtain ⟨r0, r1, rf0, rf1⟩ := hsW.res; have HS2 := Lib.hid hsW; clear hsW hbW; clear tkHS2 _t)
          | (go_at_call 44; have _t := tkHS3; refine (HRN.out te f2 t2 _ hlt HF2.out HT2.out HS2.out.1).mono ?_; rintro e wW ⟨rfl, hbW⟩; have hsW := HS2.out.below hbW; obtain ⟨x0, x1⟩ := hsW.row; obtain ⟨s0, s1, sf0, sf1⟩ := hsW.span; obtain ⟨r0, r1, rf0, rf1⟩ := hsW.res; have HS3 := Lib.hid hsW; clear hsW hbW; clear tkHS3 _t))
        refine bodyPost_ret (v := .tuple #[.agg #[.int .i64 (fr : Nat), .int .i64 (t2 : Nat)], .bool true]) ?_ rfl ⟨by rw [HV.out], ?_⟩
        · rw [results_ct rfl]
          go_simp
        · exact RnS.ends (HS3.out.setT _) _ _
      | false =>
        rw [if_neg (by decide)] at hV
        obtain ⟨pc, hpc⟩ : ∃ b, partB g n ((fr : Int) - 1) = b := ⟨_, rfl⟩
        rw [hpc] at hV
        cases pc with
        | true =>
          rw [if_pos rfl] at hV
          obtain ⟨q1, q2, -⟩ := part_low.1 hpc
          obtain ⟨k, hk⟩ : ∃ k, fr - 1 = k := ⟨_, rfl⟩
          rw [hk] at hV q2
          have q3 : (fr : Int) - 1 = (k : Int) := by omega
          rw [q3] at hpc
          have HPC : Hid (i64b (k : Int) ∧ partB g n (k : Int) = true) := ⟨⟨by omega, by omega⟩, hpc⟩
          obtain ⟨t2, ht2⟩ : ∃ t, (spanC g n k).2 + 1 = t := ⟨_, rfl⟩
          obtain ⟨f2, hf2⟩ : ∃ t, (spanC g n k).1 = t := ⟨_, rfl⟩
          have HV : Hid (V = .tuple #[.agg #[.int .i64 (f2 : Nat), .int .i64 (te : Nat)], .bool true]) := by show _ = _; rw [← hV, ← hf2, ← HTE.out]; rfl
          have hfd1 : ∀ w : World, (Instr.field 70 (.agg #[.int .i64 (f2 : Nat), .int .i64 (t2 : Nat)]) 1).run Tryd.prog w = .ok (.int .i64 (t2 : Nat)) w := fun _ => by kernel_rfl
          have hfd0 : ∀ w : World, (Instr.field 70 (.agg #[.int .i64 (f2 : Nat), .int .i64 (t2 : Nat)]) 0).run Tryd.prog w = .ok (.int .i64 (f2 : Nat)) w := fun _ => by kernel_rfl
          have HT2 := Lib.hid ht2
          have HF2 := Lib.hid hf2
          clear hV h0 hpb hpc ht2 hf2 hk q1
          go_enter Tryd.func37, Tryd.ntmps37
          go_upto_region 1 with fail
          rw [HW1.out]
          go_upto_region 2 with (go_at_call 44; refine (HR1.out _ HB1.out).mono ?_; rintro e w3 ⟨rfl, hb3⟩)
          obtain ⟨w4, hw4, hsz4, g4, hb4⟩ := one1 w3 (.cells #[.int .i64 (fr : Nat), .int .i64 (te : Nat)] 70)
          rw [hw4]
          obtain ⟨S, hS⟩ : ∃ S, w3.heap.size = S := ⟨_, rfl⟩
          rw [hS] at g4
          rw [hS]
          have HS : Hid (RnS w (.cells #[.int .i64 (n : Nat), .func (.func 39) #[] #[.pointer (some ⟨Ba, 0, none⟩)]] 68 (0, 0)) S (fr : Nat) (te : Nat) w4) := by
            have h34 := btr hb3 hb4
            have hg2 := keepO G2.out hb3
            exact ⟨btr HB1.out h34, keepO G1.out h34, keepO G2.out h34, g4, by rw [← hS]; exact (Array.getElem?_eq_some_iff.1 hg2).1⟩
          clear hw4 hsz4 g4 hb4 hb3 x0 x1 hS
          obtain ⟨x0, x1⟩ := HS.out.row
          obtain ⟨s0, s1, sf0, sf1⟩ := HS.out.span
          obtain ⟨r0, r1, rf0, rf1⟩ := HS.out.res
          have nS0 : ¬ S = w.heap.size := by have := HS.out.2.2.2.2; omega
          have nS1 : ¬ S = w.heap.size + 1 := by have := HS.out.2.2.2.2; omega
          have nS2 : ¬ w.heap.size + 1 = S := by have := HS.out.2.2.2.2; omega
          have tkHS1 : True := trivial
          have tkHS2 : True := trivial
          have tkHS3 : True := trivial
          have tkHS4 : True := trivial
          go_wp2_with (first
            | (go_at_call 39; have _t := tkHS1; refine (HC.out i _ hi HS.out.1).mono ?_; rintro e wW ⟨rfl, hbW⟩; rw [HGI.out]; have hsW := HS.out.below hbW; obtain ⟨x0, x1⟩ := hsW.row; obtain ⟨s0, s1, sf0, sf1⟩ := hsW.span; obtain ⟨r0, r1, rf0, rf1⟩ := hsW.res; have HS1 := Lib.hid hsW; clear hsW hbW; clear tkHS1 _t)
            | (go_at_call 45; have _t := tkHS2; refine (HP.out _ _ HPB.out.1 HS1.out.1).mono ?_; rintro e wW ⟨rfl, hbW⟩; rw [HPB.out.2]; have hsW := HS1.out.below hbW; obtain ⟨x0, x1⟩ := hsW.row; obtain ⟨s0, s1, sf0, sf1⟩ := hsW.span; obtain ⟨r0, r1, rf0, rf1⟩ := hsW.res; have HS2 := Lib.hid hsW; clear hsW hbW; clear tkHS2 _t)
            | (go_at_call 45; have _t := tkHS3; refine (HP.out _ _ HPC.out.1 HS2.out.1).mono ?_; rintro e wW ⟨rfl, hbW⟩; rw [HPC.out.2]; have hsW := HS2.out.below hbW; obtain ⟨x0, x1⟩ := hsW.row; obtain ⟨s0, s1, sf0, sf1⟩ := hsW.span; obtain ⟨r0, r1, rf0, rf1⟩ := hsW.res; have HS3 := Lib.hid hsW; clear hsW hbW; clear tkHS3 _t)
            | (go_at_call 44; have _t := tkHS4; refine (HRN.out k f2 t2 _ q2 HF2.out HT2.out HS3.out.1).mono ?_; rintro e wW ⟨rfl, hbW⟩; have hsW := HS3.out.below hbW; obtain ⟨x0, x1⟩ := hsW.row; obtain ⟨s0, s1, sf0, sf1⟩ := hsW.span; obtain ⟨r0, r1, rf0, rf1⟩ := hsW.res; have HS4 := Lib.hid hsW; clear hsW hbW; clear tkHS4 _t))
          refine bodyPost_ret (v := .tuple #[.agg #[.int .i64 (f2 : Nat), .int .i64 (te : Nat)], .bool true]) ?_ rfl ⟨by rw [HV.out], ?_⟩
          · rw [results_ct rfl]
            go_simp
          · exact RnS.ends (HS4.out.setF _) _ _
        | false =>
          rw [if_neg (by decide)] at hV
          have HV : Hid (V = .tuple #[.agg #[.int .i64 (fr : Nat), .int .i64 (te : Nat)], .bool true]) := by show _ = _; rw [← hV, ← HTE.out]; rfl
          have HPC : Hid (i64b ((fr : Int) - 1) ∧ partB g n ((fr : Int) - 1) = false) := ⟨⟨by omega, by omega⟩, hpc⟩
          have q4 : (-1 : Int) ≤ (fr : Int) - 1 := by omega
          clear hV h0 hpb hpc
          go_enter Tryd.func37, Tryd.ntmps37
          go_upto_region 1 with fail
          rw [HW1.out]
          go_upto_region 2 with (go_at_call 44; refine (HR1.out _ HB1.out).mono ?_; rintro e w3 ⟨rfl, hb3⟩)
          obtain ⟨w4, hw4, hsz4, g4, hb4⟩ := one1 w3 (.cells #[.int .i64 (fr : Nat), .int .i64 (te : Nat)] 70)
          rw [hw4]
          obtain ⟨S, hS⟩ : ∃ S, w3.heap.size = S := ⟨_, rfl⟩
          rw [hS] at g4
          rw [hS]
          have HS : Hid (RnS w (.cells #[.int .i64 (n : Nat), .func (.func 39) #[] #[.pointer (some ⟨Ba, 0, none⟩)]] 68 (0, 0)) S (fr : Nat) (te : Nat) w4) := by
            have h34 := btr hb3 hb4
            have hg2 := keepO G2.out hb3
            exact ⟨btr HB1.out h34, keepO G1.out h34, keepO G2.out h34, g4, by rw [← hS]; exact (Array.getElem?_eq_some_iff.1 hg2).1⟩
          clear hw4 hsz4 g4 hb4 hb3 x0 x1 hS
          obtain ⟨x0, x1⟩ := HS.out.row
          obtain ⟨s0, s1, sf0, sf1⟩ := HS.out.span
          obtain ⟨r0, r1, rf0, rf1⟩ := HS.out.res
          have nS0 : ¬ S = w.heap.size := by have := HS.out.2.2.2.2; omega
          have nS1 : ¬ S = w.heap.size + 1 := by have := HS.out.2.2.2.2; omega
          have nS2 : ¬ w.heap.size + 1 = S := by have := HS.out.2.2.2.2; omega
          have tkHS1 : True := trivial
          have tkHS2 : True := trivial
          have tkHS3 : True := trivial
          go_wp2_with (first
            | (go_at_call 39; have _t := tkHS1; refine (HC.out i _ hi HS.out.1).mono ?_; rintro e wW ⟨rfl, hbW⟩; rw [HGI.out]; have hsW := HS.out.below hbW; obtain ⟨x0, x1⟩ := hsW.row; obtain ⟨s0, s1, sf0, sf1⟩ := hsW.span; obtain ⟨r0, r1, rf0, rf1⟩ := hsW.res; have HS1 := Lib.hid hsW; clear hsW hbW; clear tkHS1 _t)
            | (go_at_call 45; have _t := tkHS2; refine (HP.out _ _ HPB.out.1 HS1.out.1).mono ?_; rintro e wW ⟨rfl, hbW⟩; rw [HPB.out.2]; have hsW := HS1.out.below hbW; obtain ⟨x0, x1⟩ := hsW.row; obtain ⟨s0, s1, sf0, sf1⟩ := hsW.span; obtain ⟨r0, r1, rf0, rf1⟩ := hsW.res; have HS2 := Lib.hid hsW; clear hsW hbW; clear tkHS2 _t)
            | (go_at_call 45; have _t := tkHS3; refine (HP.out _ _ HPC.out.1 HS2.out.1).mono ?_; rintro e wW ⟨rfl, hbW⟩; rw [HPC.out.2]; have hsW := HS2.out.below hbW; obtain ⟨x0, x1⟩ := hsW.row; obtain ⟨s0, s1, sf0, sf1⟩ := hsW.span; obtain ⟨r0, r1, rf0, rf1⟩ := hsW.res; have HS3 := Lib.hid hsW; clear hsW hbW; clear tkHS3 _t))
          refine bodyPost_ret (v := .tuple #[.agg #[.int .i64 (fr : Nat), .int .i64 (te : Nat)], .bool true]) ?_ rfl ⟨by rw [HV.out], ?_⟩
          · rw [results_ct rfl]
            go_simp
          · exact RnS.ends (HS3.out) _ _
end Go.Proofs.YthlhgkeodaifcaaDoor.U
