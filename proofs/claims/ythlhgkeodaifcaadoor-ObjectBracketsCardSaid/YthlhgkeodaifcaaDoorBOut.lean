/-
  The program's outward: the runes of all lines from p on to one side are yielded, one by one. (MADE by wip/tools/gen_bout.py.)
-/
import Derived.Test.YthlhgkeodaifcaaDoorBBet
import Derived.Test.YthlhgkeodaifcaaDoorNRange
import Derived.Shelf.Abstract
import Derived.Shelf.RegionOpen
import Derived.OwnWalkIn
import Derived.TacticsInMore
import Derived.LoopNIn
import Derived.LoopIn
namespace Go.Proofs.YthlhgkeodaifcaaDoor.U
open Go.RowKit Go.Shelf
set_option linter.unusedVariables false
set_option linter.unusedSimpArgs false
set_option maxRecDepth 100000
attribute [local go_sem] Oper.semAt_some

theorem btrW {a b c : World} {N : Nat} (h : Below N a b) (k : Below b.heap.size b c) (hN : N ≤ a.heap.size := by omega) : Below N a c := h.trans (k.mono (Nat.le_trans hN h.size))
theorem outwardC_any (a : Option Addr) (n c l q : Nat) (ar : Bool) (sd : Int) (w : World) :
    Calls Tryd.prog 49 #[askL a n c l q ar, .int .i64 sd] w fun e w' =>
      e = .returned (.func (.func 51) #[] #[.pointer (some ⟨w.heap.size, 0, none⟩), .pointer (some ⟨w.heap.size + 1, 0, none⟩)]) ∧ w' = (w.alloc (askO a n c l q ar)).alloc (.cells #[.int .i64 sd] 3) := by
  go_enter Tryd.func49, Tryd.ntmps49
  go_wp2
  go_ret
  exact ⟨rfl, rfl⟩
/-- where one stands on the way; it may be an empty line -/
def StandE (L : List (List Int)) (s li ci : Int) (R : List (Pl × Int)) : Prop := Stand L s li ci R ∨ (s = -1 ∧ ∃ i : Nat, li = (i : Int) ∧ ci = 0 ∧ i < L.length ∧ (lnL L i).length = 0 ∧ R = remB L i 0)
theorem StandE.side {L : List (List Int)} {s li ci : Int} {R : List (Pl × Int)} (h : StandE L s li ci R) : s = 1 ∨ s = -1 := by
  rcases h with h | ⟨h, -⟩
  · exact h.side
  · exact .inr h
theorem StandE.low {L : List (List Int)} {s li ci : Int} {R : List (Pl × Int)} (h : StandE L s li ci R) : -1 ≤ li ∧ -1 ≤ ci := by
  rcases h with h | ⟨-, i, h1, h2, -⟩
  · exact h.low
  · omega
theorem StandE.inside {L : List (List Int)} {s : Int} {i j : Nat} {R : List (Pl × Int)} (h : StandE L s (i : Int) (j : Int) R) (hi : i < L.length) (hj : j < (lnL L i).length) :
    ∃ R', R = ((i, j), (lnL L i).getD j 0) :: R' ∧ StandE L s (i : Int) ((j : Int) + s) R' := by
  rcases h with h | ⟨-, i', h1, h2, h3, h4, -⟩
  · obtain ⟨R', e1, e2⟩ := h.inside hi hj
    exact ⟨R', e1, .inl e2⟩
  · obtain rfl : i = i' := by omega
    omega
theorem StandE.leave {L : List (List Int)} {s ci : Int} {i : Nat} {R : List (Pl × Int)} (h : StandE L s (i : Int) ci R) (hi : i < L.length) (hj : ¬ (0 ≤ ci ∧ ci < ((lnL L i).length : Int))) :
    StandE L s ((i : Int) + s) (entC L s ((i : Int) + s)) R := by
  rcases h with h | ⟨rfl, i', h1, h2, h3, h4, rfl⟩
  · exact .inl (h.leave hi hj)
  · obtain rfl : i = i' := by omega
    have h5 : Stand L (-1) (i : Int) (-1) (remB L i 0) := .inr (.inl ⟨rfl, i, 0, rfl, by omega, hi, by omega, rfl⟩)
    exact .inl (h5.leave hi (by omega))
theorem StandE.out {L : List (List Int)} {s li ci : Int} {R : List (Pl × Int)} (h : StandE L s li ci R) (hi : ¬ (0 ≤ li ∧ li < (L.length : Int))) : R = [] := by
  rcases h with h | ⟨-, i, h1, -, h3, -⟩
  · exact h.out hi
  · omega
theorem stand_from {L : List (List Int)} {l q : Nat} : StandE L 1 (l : Nat) (q : Nat) (fromP L (l, q)) := .inl (.inl ⟨rfl, l, q, rfl, rfl, from_rem L l q⟩)
theorem stand_upto {L : List (List Int)} {l q : Nat} (h : okP L (l, q)) : StandE L (-1) (l : Nat) (q : Nat) (uptoP L (l, q)) := by
  obtain ⟨h1, h2⟩ := h
  simp only at h1 h2
  by_cases h0 : (lnL L l).length = 0
  · obtain rfl : q = 0 := by omega
    refine .inr ⟨rfl, l, rfl, rfl, h1, h0, ?_⟩
    rw [upto_rem]
    unfold remB
    congr 1
    refine List.filter_congr fun x hx => ?_
    have h3 := (runesP_mem.1 hx).1.2
    rw [Bool.eq_iff_iff, aheadP_iff, aheadP_iff]
    simp only
    by_cases e : x.1.1 = l
    · rw [e] at h3; omega
    · omega
  · exact .inl (.inr (.inl ⟨rfl, l, q + 1, rfl, by omega, h1, by omega, upto_rem L l q⟩))
/-- the box of the place where one is -/
def AtI (W : World) (B : Nat) (li ci : Int) : Prop := W.heap[B]? = some (.cells #[.int .i64 li, .int .i64 ci] 24 (0, 0))
theorem AtI.lt {W : World} {B : Nat} {li ci : Int} (h : AtI W B li ci) : B < W.heap.size := (Array.getElem?_eq_some_iff.1 h).1
theorem AtI.keep {W W' : World} {B : Nat} {li ci : Int} (h : AtI W B li ci) (hb : W'.heap[B]? = W.heap[B]?) : AtI W' B li ci := hb.trans h
theorem AtI.col {W : World} {B : Nat} {li ci : Int} (h : AtI W B li ci) (v : Int) : AtI (W.setCell ⟨B, 1, none⟩ (.int .i64 v)) B li v := heap_set h 1 _
theorem AtI.pos {W : World} {B : Nat} {li ci : Int} (h : AtI W B li ci) (u v : Int) : AtI ((W.setCell ⟨B, 0, none⟩ (.int .i64 u)).setCell ⟨B, 1, none⟩ (.int .i64 v)) B u v := heap_set (heap_set h 0 _) 1 _
/-- how many lines, columns are still to come, as the place's box says -/
def mLo (s : Int) (n B : Nat) (W : World) : Nat := if s = 1 then ((n : Int) - intOf ((W.cell? ⟨B, 0, none⟩).getD (.bool false))).toNat else (intOf ((W.cell? ⟨B, 0, none⟩).getD (.bool false)) + 1).toNat
def mCo (s : Int) (n B : Nat) (W : World) : Nat := if s = 1 then ((n : Int) - intOf ((W.cell? ⟨B, 1, none⟩).getD (.bool false))).toNat else (intOf ((W.cell? ⟨B, 1, none⟩).getD (.bool false)) + 1).toNat
theorem AtI.mL {W : World} {B : Nat} {li ci : Int} (h : AtI W B li ci) (s : Int) (n : Nat) : mLo s n B W = if s = 1 then ((n : Int) - li).toNat else (li + 1).toNat := by
  unfold mLo
  rw [(row2 h).1]
  rfl
theorem AtI.mC {W : World} {B : Nat} {li ci : Int} (h : AtI W B li ci) (s : Int) (n : Nat) : mCo s n B W = if s = 1 then ((n : Int) - ci).toNat else (ci + 1).toNat := by
  unfold mCo
  rw [(row2 h).2.1]
  rfl
set_option maxHeartbeats 4000000 in
theorem outward_iter (nn : Nat) (F : Nat → Prop) (a : Option Addr) (n c l q : Nat) (ar : Bool) (L : List (List Int)) (sd : Int) (R0 : List (Pl × Int)) (Ba Bs : Nat) (w₀ w : World) (hr : RdL F w₀ a n c L) (hb : Below w₀.heap.size w₀ w)
    (E : Nat → Prop) (hE : ∀ k, E k → w₀.heap.size ≤ k ∧ k < w.heap.size) (hA : w.heap[Ba]? = some (askO a n c l q ar)) (hS : w.cell? ⟨Bs, 0, none⟩ = some (.int .i64 sd)) (hEa : ¬ E Ba) (hEs : ¬ E Bs) (hst : StandE L sd (l : Nat) (q : Nat) R0) :
    Iter Fence.wide nn Tryd.prog 51 #[.pointer (some ⟨Ba, 0, none⟩), .pointer (some ⟨Bs, 0, none⟩)] (fun x : Pl × Int => #[plV x.1, .int .i32 x.2]) R0 E w := by
  intro lb J Jx hJ hY h0
  have hln : L.length = n := hr.len
  have hsm := hr.small
  have hss := hst.side
  have hBa2 : Ba < w.heap.size := (Array.getElem?_eq_some_iff.1 hA).1
  have hBs2 := block_lt_of_cell hS
  obtain ⟨a0, a1, a2, a3⟩ := row4 hA
  have HEN : Hid (∀ (v : Int) (W : World), Below w₀.heap.size w₀ W → (sd < 0 → v < (n : Int)) → Calls Tryd.prog 52 #[askL a n c l q ar, .int .i64 v, .int .i64 sd] W fun e w' => e = .returned (.agg #[.int .i64 v, .int .i64 (entC L sd v)]) ∧ Below W.heap.size W w') := fun v W hW hv => entry_any F a n c l q ar L v sd W (hr.below hW) hv
  have HRD := Lib.hid hr
  have HJ := Lib.hid hJ
  have HY := Lib.hid hY
  have HE := Lib.hid hE
  have HB := Lib.hid hb
  have HLN := Lib.hid hln
  have HSS := Lib.hid hss
  have HST0 := Lib.hid hst
  obtain ⟨w1, hw1, hsz1, g1, hb1⟩ := one1 w (.cells #[.int .i64 (l : Nat), .int .i64 (q : Nat)] 24)
  have HW1 := Lib.hid hw1
  have HAT1 : Hid (AtI w1 w.heap.size (l : Nat) (q : Nat)) := g1
  have HB1 : Hid (But w.heap.size E w w1) := But.of_below hb1
  have HJ1 : Hid (J [] w1) := hJ _ _ _ h0 hb1
  clear hr hJ hY hE hb hln hss hst h0 hw1 hsz1 g1 hb1 hA
  refine callsIn_of_wp Tryd.func51 rfl trivial ?_ rfl
  simp only [Tryd.ntmps51, List.size_toArray, List.length_cons, List.length_nil, Nat.reduceAdd, Nat.reduceSub, Array.replicate_succ, Array.replicate_zero, List.push_toArray, List.append_toArray, List.nil_append, List.cons_append]
  gi_wp2
  rw [HW1.out]
  gi_loopw [8] (fun v8 wr => ∃ (li ci : Int) (R pre : List (Pl × Int)), Hid (pre ++ R = R0) ∧ Hid (StandE L sd li ci R) ∧ Hid (AtI wr w.heap.size li ci) ∧ Hid (J pre wr) ∧ Hid (But w.heap.size E w wr)) (fun _ wr => mLo sd n w.heap.size wr)
  case atStart => exact ⟨(l : Nat), (q : Nat), R0, [], rfl, HST0.out, HAT1.out, HJ1.out, HB1.out⟩
  case round =>
    clear HST0 HAT1 HJ1 HB1
    obtain ⟨li, ci, R, pre, HP, HST, HAT, HJP, HBW⟩ := hrel
    obtain ⟨x0, x1, x2, x3⟩ : wr.cell? ⟨Ba, 0, none⟩ = some (.slice a n c) ∧ wr.cell? ⟨Ba, 1, none⟩ = some (.int .i64 (l : Nat)) ∧ wr.cell? ⟨Ba, 2, none⟩ = some (.int .i64 (q : Nat)) ∧ wr.cell? ⟨Ba, 3, none⟩ = some (.bool ar) := ⟨(HBW.out.cell (p := ⟨Ba, 0, none⟩) hBa2 hEa).trans a0, (HBW.out.cell (p := ⟨Ba, 1, none⟩) hBa2 hEa).trans a1, (HBW.out.cell (p := ⟨Ba, 2, none⟩) hBa2 hEa).trans a2, (HBW.out.cell (p := ⟨Ba, 3, none⟩) hBa2 hEa).trans a3⟩
    have sc := (HBW.out.cell (p := ⟨Bs, 0, none⟩) hBs2 hEs).trans hS
    obtain ⟨p0, p1, pf0, pf1⟩ := row2 HAT.out
    have hlow := HST.out.low
    have naS : ¬ Ba = w.heap.size := by omega
    have nsS : ¬ Bs = w.heap.size := by omega
    by_cases hin : 0 ≤ li ∧ li < (n : Int)
    · obtain ⟨i, rfl⟩ : ∃ i : Nat, li = (i : Int) := ⟨li.toNat, by omega⟩
      have hin2 : i < n := by omega
      have hbw0 : Below w₀.heap.size w₀ wr := HB.out.trans (HBW.out.below HB.out.size (fun k hk e => by have := (HE.out k e).1; omega))
      obtain ⟨b, off, ra, rc, rfl, -, hbl, e1, hrd⟩ := okP.line (p := (i, 0)) HRD.out ⟨by have := HLN.out; simp only; omega, by simp⟩ hbw0
      simp only at e1 hrd
      obtain ⟨x, hxx⟩ : ∃ x, lnL L i = x := ⟨_, rfl⟩
      rw [hxx] at e1 hrd
      obtain ⟨m, hm⟩ : ∃ m, x.length = m := ⟨_, rfl⟩
      have hms := hrd.small
      rw [hm] at e1 hrd hms
      have d0 : (0 : Int) ≤ (i : Int) := by omega
      have d1 : decide ((0 : Int) ≤ (i : Int)) = true := by simp
      have d2 : (i : Int) < (n : Int) := by omega
      have d3 : decide ((i : Int) < (n : Int)) = true := by simp; omega
      have d4 : decide (i < n) = true := by simp; omega
      have d5 : ¬ (i : Int) < 0 := by omega
      have d6 : decide ((i : Int) < 0) = false := by simp
      have HX := Lib.hid hxx
      have HM := Lib.hid hm
      have HBLI := Lib.hid hbl
      have HRR : Hid (∀ W, Below w₀.heap.size w₀ W → Rd .i32 W ra m rc x) := by
        intro W hW
        obtain ⟨b', off', ra', rc', hab, -, -, e1', hrd'⟩ := okP.line (p := (i, 0)) HRD.out ⟨by have := HLN.out; simp only; omega, by simp⟩ hW
        simp only at e1' hrd'
        cases hab
        have e2 : wr.cell? ⟨b, off + i, none⟩ = W.cell? ⟨b, off + i, none⟩ := (hbw0.cell (p := ⟨b, off + i, none⟩) hbl).trans (hW.cell (p := ⟨b, off + i, none⟩) hbl).symm
        rw [hxx, hm] at e1' hrd'
        rw [e1, e1'] at e2
        simp only [Option.some.injEq, Value.slice.injEq, true_and] at e2
        obtain ⟨rfl, rfl⟩ := e2
        exact hrd'
      have HIN := Lib.hid hin2
      clear hin hxx hm hrd hbw0 hbl
      gi_wp2
      obtain ⟨wo, hwo⟩ : ∃ y, y = wr := ⟨_, rfl⟩
      subst hwo
      gi_loopw [25] (fun v25 wr => ∃ (ci : Int) (R pre : List (Pl × Int)), Hid (pre ++ R = R0) ∧ Hid (StandE L sd (i : Nat) ci R) ∧ Hid (AtI wr w.heap.size (i : Nat) ci) ∧ Hid (J pre wr) ∧ Hid (But w.heap.size E w wr)) (fun _ wr => mCo sd m w.heap.size wr)
      case atStart => exact ⟨ci, R, pre, HP.out, HST.out, HAT.out, HJP.out, HBW.out⟩
      case round =>
        have HOUT : Hid (mLo sd n w.heap.size wo = if sd = 1 then ((n : Int) - (i : Nat)).toNat else ((i : Nat) + 1 : Int).toNat) := HAT.out.mL sd n
        clear HP HST HAT HJP HBW x0 x1 x2 x3 sc p0 p1 pf0 pf1 e1 hlow
        obtain ⟨ci, R, pre, HP, HST, HAT, HJP, HBW⟩ := hrel
        obtain ⟨x0, x1, x2, x3⟩ : wr.cell? ⟨Ba, 0, none⟩ = some (.slice (some ⟨b, off, none⟩) n c) ∧ wr.cell? ⟨Ba, 1, none⟩ = some (.int .i64 (l : Nat)) ∧ wr.cell? ⟨Ba, 2, none⟩ = some (.int .i64 (q : Nat)) ∧ wr.cell? ⟨Ba, 3, none⟩ = some (.bool ar) := ⟨(HBW.out.cell (p := ⟨Ba, 0, none⟩) hBa2 hEa).trans a0, (HBW.out.cell (p := ⟨Ba, 1, none⟩) hBa2 hEa).trans a1, (HBW.out.cell (p := ⟨Ba, 2, none⟩) hBa2 hEa).trans a2, (HBW.out.cell (p := ⟨Ba, 3, none⟩) hBa2 hEa).trans a3⟩
        have sc := (HBW.out.cell (p := ⟨Bs, 0, none⟩) hBs2 hEs).trans hS
        obtain ⟨p0, p1, pf0, pf1⟩ := row2 HAT.out
        have hlow := HST.out.low.2
        by_cases hc : 0 ≤ ci ∧ ci < (m : Int)
        · obtain ⟨j, rfl⟩ : ∃ j : Nat, ci = (j : Int) := ⟨ci.toNat, by omega⟩
          have hj : j < m := by omega
          obtain ⟨R', hR', hS'⟩ := HST.out.inside (i := i) (j := j) (by have := HLN.out; have := HIN.out; omega) (by rw [HX.out, HM.out]; exact hj)
          rw [HX.out] at hR'
          have hbw0 : Below w₀.heap.size w₀ wr := HB.out.trans (HBW.out.below HB.out.size (fun k hk e => by have := (HE.out k e).1; omega))
          obtain ⟨rb, ro, rfl, hrb, c1⟩ := (HRR.out wr hbw0).at_ (i := j) hj
          obtain ⟨rr, hrr⟩ : ∃ r, x.getD j 0 = r := ⟨_, rfl⟩
          rw [hrr] at c1 hR'
          have g0 : (0 : Int) ≤ (j : Int) := by omega
          have g1 : decide ((0 : Int) ≤ (j : Int)) = true := by simp
          have g2 : (j : Int) < (m : Int) := by omega
          have g3 : decide ((j : Int) < (m : Int)) = true := by simp; omega
          have g4 : decide (j < m) = true := by simp; omega
          have g5 : ¬ (j : Int) < 0 := by omega
          have g6 : decide ((j : Int) < 0) = false := by simp
          have hsb : -1 ≤ sd ∧ sd ≤ 1 := by have := HSS.out; omega
          have g7 : (j : Int) + sd ≤ 9223372036854775807 := by omega
          have g8 : -9223372036854775808 ≤ (j : Int) + sd := by omega
          have HSB := Lib.hid hsb
          have HPX : Hid (pre ++ [((i, j), rr)] <+: R0 ∧ pre ++ [((i, j), rr)] ++ R' = R0) := by
            have e := HP.out
            rw [hR'] at e
            refine ⟨⟨R', ?_⟩, ?_⟩
            · rw [List.append_assoc, List.singleton_append]; exact e
            · rw [List.append_assoc, List.singleton_append]; exact e
          have HS2 := Lib.hid hS'
          have hsz : w.heap.size ≤ wr.drew.heap.size := HBW.out.size
          obtain ⟨fn, tmps, assign, body, hy, hR⟩ := HY.out pre ((i, j), rr) wr.drew hsz (HJ.out _ _ _ HJP.out (Below.refl _ _).drew) HPX.out.1
          unfold plV at hy
          simp only at hy
          have HRR2 := Lib.hid hR
          have HGJ := Lib.hid hj
          clear hR hrr hR' hS' hc hj hbw0 hrb hsz hsb
          gi_wp2_with fail
          refine wpIn_region_any (by kernel_rfl) ?_
          change wpAnyIn _ _ _ _ _ _ _ _ _ (World.drew _)
          refine wpAnyIn_take (i := 0) (v := ?_) rfl rfl (by kernel_rfl) (by kernel_rfl) (by kernel_rfl) (fun _ _ _ h => h) ⟨Or.inl ⟨by rfl, ?_⟩, fun _ => rfl⟩ ?_
          rotate_left
          · intro w'
            go_simp
            try with_reducible rfl
          (try simp only [Act.put, List.setIfInBounds_toArray, List.set_cons_zero, List.set_cons_succ])
          refine wpAnyIn_take (i := 2) (v := ?_) rfl rfl (by kernel_rfl) (by kernel_rfl) (by kernel_rfl) (fun _ _ _ h => h) ⟨Or.inl ⟨by rfl, ?_⟩, fun _ => rfl⟩ ?_
          rotate_left
          · intro w'
            go_simp
            try with_reducible rfl
          (try simp only [Act.put, List.setIfInBounds_toArray, List.set_cons_zero, List.set_cons_succ])
          refine wpAnyIn_take (i := 3) (v := ?_) rfl rfl (by kernel_rfl) (by kernel_rfl) (by kernel_rfl) (fun _ _ _ h => h) ⟨Or.inl ⟨by rfl, ?_⟩, fun _ => rfl⟩ ?_
          rotate_left
          · intro w'
            go_simp
            try with_reducible rfl
          (try simp only [Act.put, List.setIfInBounds_toArray, List.set_cons_zero, List.set_cons_succ])
          refine wpAnyIn_ready (rs := [1, 4]) (by kernel_rfl) (by simp) ?_
          refine (AllReadyIn.cons rfl (fun K hK => ?_) (AllReadyIn.cons rfl (fun K hK => ?_) AllReadyIn.nil))
          focus
            go_simp
            refine hK _ _ ?_
            clear hK K
            refine wpAnyIn_ready (rs := [4]) (by kernel_rfl) (by simp) ?_
            refine (AllReadyIn.cons rfl (fun K hK => ?_) AllReadyIn.nil)
            go_simp
            refine hK _ _ ?_
            clear hK K
            refine wpAnyIn_ready (rs := [5]) (by kernel_rfl) (by simp) ?_
            refine (AllReadyIn.cons rfl (fun K hK => ?_) AllReadyIn.nil)
            go_simp
            refine hK _ _ ?_
            clear hK K
            refine wpAnyIn_ready (rs := [6]) (by kernel_rfl) (by simp) ?_
            refine (AllReadyIn.cons rfl (fun K hK => ?_) AllReadyIn.nil)
            go_simp
            refine hK _ _ ?_
            clear hK K
            refine wpAnyIn_ready (rs := [7]) (by kernel_rfl) (by simp) ?_
            refine (AllReadyIn.cons rfl (fun K hK => ?_) AllReadyIn.nil)
            go_simp
            refine ⟨(fun h => by simp [Fence.wide] at h), ?_⟩
            refine HRR2.out.mono ?_
            rintro e W3 (⟨rfl, hj3, hb3⟩ | ⟨rfl, hjx3⟩)
            · have hat3 : AtI W3 w.heap.size (i : Nat) (j : Nat) := HAT.out.keep (hb3.block _ HAT.out.lt (fun e => by have := (HE.out _ e).2; omega))
              obtain ⟨q0, q1, qf0, qf1⟩ := row2 hat3
              have sc3 : W3.cell? ⟨Bs, 0, none⟩ = some (.int .i64 sd) := (hb3.cell (p := ⟨Bs, 0, none⟩) (Nat.lt_of_lt_of_le hBs2 HBW.out.size) hEs).trans sc
              have hsz3 : w.heap.size ≤ W3.heap.size := Nat.le_trans HBW.out.size hb3.size
              obtain ⟨W4, hW4⟩ : ∃ W4, W3.setCell ⟨w.heap.size, 1, none⟩ (.int .i64 ((j : Nat) + sd)) = W4 := ⟨_, rfl⟩
              have hat4 : AtI W4 w.heap.size (i : Nat) ((j : Nat) + sd) := by rw [← hW4]; exact hat3.col _
              have hb4 : Below w.heap.size W3 W4 := by rw [← hW4]; exact setCell_below (Below.refl _ _) _ _ _ (Nat.le_refl _)
              have HA4 := Lib.hid hat4
              have HJ4 : Hid (J (pre ++ [((i, j), rr)]) W4) := HJ.out _ _ _ hj3 hb4
              have HB4 : Hid (But w.heap.size E w W4) := (HBW.out.drew.trans (hb3.mono HBW.out.size (fun _ _ h => h))).trans (But.of_below hb4)
              have HW4 := Lib.hid hW4
              clear hat4 hb4 hW4 hat3 hb3 hj3 hsz3
              refine hK _ _ ?_
              clear hK K
              refine wpAnyIn_ready (rs := [8]) (by kernel_rfl) (by simp) ?_
              refine (AllReadyIn.cons rfl (fun K hK => ?_) AllReadyIn.nil)
              go_simp
              refine hK _ _ ?_
              clear hK K
              refine wpAnyIn_done (by kernel_rfl) ?_ _
              gi_wp2
              rw [HW4.out]
              go_roundw
              case rel => exact ⟨(j : Nat) + sd, R', pre ++ [((i, j), rr)], HPX.out.2, HS2.out, HA4.out, HJ4.out, HB4.out⟩
              case measure =>
                rw [HA4.out.mC, HAT.out.mC]
                have := HSS.out
                have := HGJ.out
                clear HA4 HAT
                split <;> omega
            · refine hK _ _ ?_
              clear hK K
              refine wpAnyIn_ready (rs := [8]) (by kernel_rfl) (by simp) ?_
              refine (AllReadyIn.cons rfl (fun K hK => ?_) AllReadyIn.nil)
              go_simp
              refine hK _ _ ?_
              clear hK K
              refine wpAnyIn_done (by kernel_rfl) ?_ _
              gi_wp2
              refine bodyPost_ret (results_none rfl _ _ _) rfl ?_
              exact ⟨⟨_, rfl⟩, .inr ⟨_, HPX.out.1, hjx3⟩⟩
          focus
            go_simp
            refine hK _ _ ?_
            clear hK K
            refine wpAnyIn_take (i := 5) (v := ?_) rfl rfl (by kernel_rfl) (by kernel_rfl) (by kernel_rfl) (fun _ _ _ h => h) ⟨Or.inl ⟨by rfl, ?_⟩, fun _ => rfl⟩ ?_
            rotate_left
            · intro w'
              go_simp
              try with_reducible rfl
            (try simp only [Act.put, List.setIfInBounds_toArray, List.set_cons_zero, List.set_cons_succ])
            refine wpAnyIn_ready (rs := [1, 6]) (by kernel_rfl) (by simp) ?_
            refine (AllReadyIn.cons rfl (fun K hK => ?_) (AllReadyIn.cons rfl (fun K hK => ?_) AllReadyIn.nil))
            focus
              go_simp
              refine hK _ _ ?_
              clear hK K
              refine wpAnyIn_ready (rs := [6]) (by kernel_rfl) (by simp) ?_
              refine (AllReadyIn.cons rfl (fun K hK => ?_) AllReadyIn.nil)
              go_simp
              refine hK _ _ ?_
              clear hK K
              refine wpAnyIn_ready (rs := [7]) (by kernel_rfl) (by simp) ?_
              refine (AllReadyIn.cons rfl (fun K hK => ?_) AllReadyIn.nil)
              go_simp
              refine ⟨(fun h => by simp [Fence.wide] at h), ?_⟩
              refine HRR2.out.mono ?_
              rintro e W3 (⟨rfl, hj3, hb3⟩ | ⟨rfl, hjx3⟩)
              · have hat3 : AtI W3 w.heap.size (i : Nat) (j : Nat) := HAT.out.keep (hb3.block _ HAT.out.lt (fun e => by have := (HE.out _ e).2; omega))
                obtain ⟨q0, q1, qf0, qf1⟩ := row2 hat3
                have sc3 : W3.cell? ⟨Bs, 0, none⟩ = some (.int .i64 sd) := (hb3.cell (p := ⟨Bs, 0, none⟩) (Nat.lt_of_lt_of_le hBs2 HBW.out.size) hEs).trans sc
                have hsz3 : w.heap.size ≤ W3.heap.size := Nat.le_trans HBW.out.size hb3.size
                obtain ⟨W4, hW4⟩ : ∃ W4, W3.setCell ⟨w.heap.size, 1, none⟩ (.int .i64 ((j : Nat) + sd)) = W4 := ⟨_, rfl⟩
                have hat4 : AtI W4 w.heap.size (i : Nat) ((j : Nat) + sd) := by rw [← hW4]; exact hat3.col _
                have hb4 : Below w.heap.size W3 W4 := by rw [← hW4]; exact setCell_below (Below.refl _ _) _ _ _ (Nat.le_refl _)
                have HA4 := Lib.hid hat4
                have HJ4 : Hid (J (pre ++ [((i, j), rr)]) W4) := HJ.out _ _ _ hj3 hb4
                have HB4 : Hid (But w.heap.size E w W4) := (HBW.out.drew.trans (hb3.mono HBW.out.size (fun _ _ h => h))).trans (But.of_below hb4)
                have HW4 := Lib.hid hW4
                clear hat4 hb4 hW4 hat3 hb3 hj3 hsz3
                refine hK _ _ ?_
                clear hK K
                refine wpAnyIn_ready (rs := [8]) (by kernel_rfl) (by simp) ?_
                refine (AllReadyIn.cons rfl (fun K hK => ?_) AllReadyIn.nil)
                go_simp
                refine hK _ _ ?_
                clear hK K
                refine wpAnyIn_done (by kernel_rfl) ?_ _
                gi_wp2
                rw [HW4.out]
                go_roundw
                case rel => exact ⟨(j : Nat) + sd, R', pre ++ [((i, j), rr)], HPX.out.2, HS2.out, HA4.out, HJ4.out, HB4.out⟩
                case measure =>
                  rw [HA4.out.mC, HAT.out.mC]
                  have := HSS.out
                  have := HGJ.out
                  clear HA4 HAT
                  split <;> omega
              · refine hK _ _ ?_
                clear hK K
                refine wpAnyIn_ready (rs := [8]) (by kernel_rfl) (by simp) ?_
                refine (AllReadyIn.cons rfl (fun K hK => ?_) AllReadyIn.nil)
                go_simp
                refine hK _ _ ?_
                clear hK K
                refine wpAnyIn_done (by kernel_rfl) ?_ _
                gi_wp2
                refine bodyPost_ret (results_none rfl _ _ _) rfl ?_
                exact ⟨⟨_, rfl⟩, .inr ⟨_, HPX.out.1, hjx3⟩⟩
            focus
              go_simp
              refine hK _ _ ?_
              clear hK K
              refine wpAnyIn_ready (rs := [1]) (by kernel_rfl) (by simp) ?_
              refine (AllReadyIn.cons rfl (fun K hK => ?_) AllReadyIn.nil)
              go_simp
              refine hK _ _ ?_
              clear hK K
              refine wpAnyIn_ready (rs := [7]) (by kernel_rfl) (by simp) ?_
              refine (AllReadyIn.cons rfl (fun K hK => ?_) AllReadyIn.nil)
              go_simp
              refine ⟨(fun h => by simp [Fence.wide] at h), ?_⟩
              refine HRR2.out.mono ?_
              rintro e W3 (⟨rfl, hj3, hb3⟩ | ⟨rfl, hjx3⟩)
              · have hat3 : AtI W3 w.heap.size (i : Nat) (j : Nat) := HAT.out.keep (hb3.block _ HAT.out.lt (fun e => by have := (HE.out _ e).2; omega))
                obtain ⟨q0, q1, qf0, qf1⟩ := row2 hat3
                have sc3 : W3.cell? ⟨Bs, 0, none⟩ = some (.int .i64 sd) := (hb3.cell (p := ⟨Bs, 0, none⟩) (Nat.lt_of_lt_of_le hBs2 HBW.out.size) hEs).trans sc
                have hsz3 : w.heap.size ≤ W3.heap.size := Nat.le_trans HBW.out.size hb3.size
                obtain ⟨W4, hW4⟩ : ∃ W4, W3.setCell ⟨w.heap.size, 1, none⟩ (.int .i64 ((j : Nat) + sd)) = W4 := ⟨_, rfl⟩
                have hat4 : AtI W4 w.heap.size (i : Nat) ((j : Nat) + sd) := by rw [← hW4]; exact hat3.col _
                have hb4 : Below w.heap.size W3 W4 := by rw [← hW4]; exact setCell_below (Below.refl _ _) _ _ _ (Nat.le_refl _)
                have HA4 := Lib.hid hat4
                have HJ4 : Hid (J (pre ++ [((i, j), rr)]) W4) := HJ.out _ _ _ hj3 hb4
                have HB4 : Hid (But w.heap.size E w W4) := (HBW.out.drew.trans (hb3.mono HBW.out.size (fun _ _ h => h))).trans (But.of_below hb4)
                have HW4 := Lib.hid hW4
                clear hat4 hb4 hW4 hat3 hb3 hj3 hsz3
                refine hK _ _ ?_
                clear hK K
                refine wpAnyIn_ready (rs := [8]) (by kernel_rfl) (by simp) ?_
                refine (AllReadyIn.cons rfl (fun K hK => ?_) AllReadyIn.nil)
                go_simp
                refine hK _ _ ?_
                clear hK K
                refine wpAnyIn_done (by kernel_rfl) ?_ _
                gi_wp2
                rw [HW4.out]
                go_roundw
                case rel => exact ⟨(j : Nat) + sd, R', pre ++ [((i, j), rr)], HPX.out.2, HS2.out, HA4.out, HJ4.out, HB4.out⟩
                case measure =>
                  rw [HA4.out.mC, HAT.out.mC]
                  have := HSS.out
                  have := HGJ.out
                  clear HA4 HAT
                  split <;> omega
              · refine hK _ _ ?_
                clear hK K
                refine wpAnyIn_ready (rs := [8]) (by kernel_rfl) (by simp) ?_
                refine (AllReadyIn.cons rfl (fun K hK => ?_) AllReadyIn.nil)
                go_simp
                refine hK _ _ ?_
                clear hK K
                refine wpAnyIn_done (by kernel_rfl) ?_ _
                gi_wp2
                refine bodyPost_ret (results_none rfl _ _ _) rfl ?_
                exact ⟨⟨_, rfl⟩, .inr ⟨_, HPX.out.1, hjx3⟩⟩
        · have HLV := Lib.hid (HST.out.leave (i := i) (by have := HLN.out; have := HIN.out; omega) (by rw [HX.out, HM.out]; exact hc))
          have HSB : Hid (-1 ≤ sd ∧ sd ≤ 1) := by have := HSS.out; show _ ∧ _; omega
          obtain ⟨v, hv⟩ : ∃ v, ((i : Nat) : Int) + sd = v := ⟨_, rfl⟩
          have hvb : -9223372036854775808 ≤ v ∧ v ≤ 9223372036854775807 := by have := HSB.out; omega
          obtain ⟨hv1, hv2⟩ := hvb
          have hvn : sd < 0 → v < (n : Int) := by intro h; have := HIN.out; omega
          have HVN := Lib.hid hvn
          have HV : Hid (((i : Nat) : Int) + sd = v) := hv
          have hcf : (decide ((0 : Int) ≤ ci) = true ∧ decide (ci < (m : Int)) = false) ∨ decide ((0 : Int) ≤ ci) = false := by
            by_cases h0 : 0 ≤ ci
            · left; constructor <;> simp <;> omega
            · right; simp; omega
          have HLV2 : Hid (StandE L sd v (entC L sd v) R) := by have := HLV.out; rw [HV.out] at this; exact this
          have hbw0 : Below w₀.heap.size w₀ wr := HB.out.trans (HBW.out.below HB.out.size (fun k hk e => by have := (HE.out k e).1; omega))
          have HW0 := Lib.hid hbw0
          clear hc hbw0 hvn
          rcases hcf with ⟨h1, h2⟩ | h1
          all_goals
            gi_wp2
            try rw [HV.out]
            refine ⟨trivial, (fun h => by simp [Fence.wide] at h), ?_⟩
            refine (callsIn_wide.2 (HEN.out v _ HW0.out HVN.out)).mono ?_
            rintro e W3 ⟨rfl, hb3⟩
            have hat3 : AtI W3 w.heap.size (i : Nat) ci := HAT.out.keep (hb3.block _ HAT.out.lt)
            obtain ⟨q0, q1, qf0, qf1⟩ := row2 hat3
            obtain ⟨W4, hW4⟩ : ∃ W4, (W3.setCell ⟨w.heap.size, 0, none⟩ (.int .i64 v)).setCell ⟨w.heap.size, 1, none⟩ (.int .i64 (entC L sd v)) = W4 := ⟨_, rfl⟩
            have hat4 : AtI W4 w.heap.size v (entC L sd v) := by rw [← hW4]; exact hat3.pos _ _
            have hb4 : Below w.heap.size wr W4 := by rw [← hW4]; exact setCell_below (setCell_below (hb3.mono HBW.out.size) _ _ _ (Nat.le_refl _)) _ _ _ (Nat.le_refl _)
            have HA4 := Lib.hid hat4
            have HJ4 : Hid (J pre W4) := HJ.out _ _ _ HJP.out hb4
            have HB4 : Hid (But w.heap.size E w W4) := HBW.out.trans (But.of_below hb4)
            have HW4 := Lib.hid hW4
            clear hat4 hb4 hW4 hat3 hb3
            gi_wp2
            rw [HW4.out]
            go_roundw
            case rel => exact ⟨v, entC L sd v, R, pre, HP.out, HLV2.out, HA4.out, HJ4.out, HB4.out⟩
            case measure =>
              rw [HA4.out.mL]
              rw [HOUT.out]
              have := HSS.out
              have := HV.out
              have := HIN.out
              clear HV HA4 HOUT
              split <;> omega
    · have hRn : R = [] := HST.out.out (by rw [HLN.out]; exact hin)
      have HD : Hid (J R0 wr) := by
        have e := HP.out
        rw [hRn, List.append_nil] at e
        rw [← e]
        exact HJP.out
      have hcf : (decide ((0 : Int) ≤ li) = true ∧ decide (li < (n : Int)) = false) ∨ decide ((0 : Int) ≤ li) = false := by
        by_cases h0 : 0 ≤ li
        · left; constructor <;> simp <;> omega
        · right; simp; omega
      clear hin hRn HJP HP
      rcases hcf with ⟨h1, h2⟩ | h1
      all_goals
        gi_wp2
        go_end0
        exact ⟨⟨_, rfl⟩, .inl HD.out⟩
end Go.Proofs.YthlhgkeodaifcaaDoor.U
