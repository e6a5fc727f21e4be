/-
  The walks of MarksMoves and MarksOrder.
-/
import Derived.Test.YtbgbhlnidabhnaaMArg
namespace Go.Proofs.Ytbgbhlnidabhnaa.U
open Go.RowKit
set_option linter.unusedVariables false
set_option linter.unusedSimpArgs false
set_option maxRecDepth 100000

set_option maxHeartbeats 4000000 in
theorem marksMoves_wide (q : Po) (u : Tri) (c : Ch) (w : World) (hq : i64p q) (hc : IsChW w u c) :
    Calls Try.prog 3 #[q.v, .agg #[u.1, u.2.1, u.2.2]] w fun e w' => e = .returned (.bool true) ∧ Below w.heap.size w w' := by
  obtain ⟨⟨⟨oa, oc, na, nc, rfl, ho, hn⟩, hp, -, -⟩, hol, hnl⟩ := hc
  obtain ⟨l, cc⟩ := q
  obtain ⟨pos, old, now⟩ := c
  obtain ⟨hi1, hi2⟩ := hq
  show Calls _ _ #[.agg #[.int .i64 l, .int .i64 cc], .agg #[.int .i64 pos, .slice oa old.length oc, .slice na now.length nc]] w _
  obtain ⟨w1, hw1⟩ : ∃ w1, (w.alloc (.cells #[.int .i64 l, .int .i64 cc] 23)).alloc (.cells #[.int .i64 pos, .slice oa old.length oc, .slice na now.length nc] 26) = w1 := ⟨_, rfl⟩
  have hb1 : Below w.heap.size w w1 := by rw [← hw1]; exact ((Below.refl _ w).alloc (Nat.le_refl _) _).alloc (by simp) _
  have hs1 : w1.heap.size = w.heap.size + 2 := by rw [← hw1]; simp
  have gp : w1.heap[w.heap.size]? = some (.cells #[.int .i64 l, .int .i64 cc] 23 (0, 0)) := by
    rw [← hw1, ((Below.refl _ (w.alloc (.cells #[.int .i64 l, .int .i64 cc] 23))).alloc (Nat.le_refl _) _).block _ (by simp)]
    exact heap_alloc_new w _
  have gc : w1.heap[w.heap.size + 1]? = some (.cells #[.int .i64 pos, .slice oa old.length oc, .slice na now.length nc] 26 (0, 0)) := by
    rw [← hw1]
    have := heap_alloc_new (w.alloc (.cells #[.int .i64 l, .int .i64 cc] 23)) (.cells #[.int .i64 pos, .slice oa old.length oc, .slice na now.length nc] 26)
    rw [show (w.alloc (.cells #[.int .i64 l, .int .i64 cc] 23)).heap.size = w.heap.size + 1 by simp] at this
    exact this
  -- the two arguments, in every later world
  have args : ∀ W : World, Below w1.heap.size w1 W → W.cell? ⟨w.heap.size, 0, none⟩ = some (.int .i64 l) ∧ W.cell? ⟨w.heap.size, 1, none⟩ = some (.int .i64 cc) ∧ W.cell? ⟨w.heap.size + 1, 0, none⟩ = some (.int .i64 pos) ∧ W.cell? ⟨w.heap.size + 1, 1, none⟩ = some (.slice oa old.length oc) ∧ W.cell? ⟨w.heap.size + 1, 2, none⟩ = some (.slice na now.length nc) := by
    intro W hW
    have g1 := (hW.block w.heap.size (by omega)).trans gp
    have g2 := (hW.block (w.heap.size + 1) (by omega)).trans gc
    exact ⟨by rw [cell_row g1]; rfl, by rw [cell_row g1]; rfl, by rw [cell_row g2]; rfl, by rw [cell_row g2]; rfl, by rw [cell_row g2]; rfl⟩
  obtain ⟨a0, a1, a2, a3, a4⟩ := args w1 (Below.refl _ _)
  have hn : RdL (fun k => k < w.heap.size) w na now.length nc now := hn
  have hpos : i64b pos := hp
  have hol : old.length ≤ 35184372088832 := hol
  have hnl : now.length ≤ 35184372088832 := hnl
  by_cases hnear : nearB ⟨l, cc⟩ ⟨pos, old, now⟩ = true
  · have hm : NearM ⟨l, cc⟩ ⟨pos, old, now⟩ := by
      simp only [nearB, decide_eq_true_eq] at hnear
      simp only [NearM]
      omega
    have ccalls : ∀ W : World, Below w1.heap.size w1 W → Calls Try.prog 9 #[.agg #[.int .i64 l, .int .i64 cc], .agg #[.int .i64 pos, .slice oa old.length oc, .slice na now.length nc]] W fun e w' => e = .returned (ansV (moveP ⟨l, cc⟩ ⟨pos, old, now⟩)) ∧ Below W.heap.size W w' := fun W hW =>
      move_any ⟨l, cc⟩ ⟨pos, old, now⟩ oa na oc nc _ W (hn.below (hb1.trans (hW.mono hb1.size))) hm hi2
    have rcalls : ∀ W : World, Below w1.heap.size w1 W → Calls Try.prog 10 #[.agg #[.int .i64 l, .int .i64 cc], .agg #[.int .i64 pos, .slice oa old.length oc, .slice na now.length nc]] W fun e w' => e = .returned (ansV (moveP ⟨l, cc⟩ ⟨pos, old, now⟩)) ∧ Below W.heap.size W w' := fun W hW =>
      rmove_any ⟨l, cc⟩ ⟨pos, old, now⟩ oa na oc nc _ W (hn.below (hb1.trans (hW.mono hb1.size))) hm hi2
    have hnc := near_any ⟨l, cc⟩ ⟨pos, old, now⟩ oa na old.length oc now.length nc w1
    rw [hnear] at hnc
    obtain ⟨o, ho'⟩ : ∃ o, moveP ⟨l, cc⟩ ⟨pos, old, now⟩ = o := ⟨_, rfl⟩
    obtain ⟨⟨al, ac⟩, ha⟩ : ∃ a, o.getD po0 = a := ⟨_, rfl⟩
    obtain ⟨bb, hbb⟩ : ∃ b, o.isSome = b := ⟨_, rfl⟩
    have hans : ansV o = .tuple #[.agg #[.int .i64 al, .int .i64 ac], .bool bb] := by unfold ansV; rw [ha, hbb]; rfl
    rw [ho', hans] at ccalls rcalls
    have HM := Lib.hid hm
    have HNR := Lib.hid hnear
    clear hans ha hbb ho' hm hnear ho hn hp gp gc
    have hbeq : (bb == bb) = true := by simp
    go_enter Try.func3, Try.ntmps3
    go_wp2_with (first | (go_at_call 8; refine hnc.mono ?_; rintro e w2 ⟨rfl, hb2⟩; obtain ⟨a0, a1, a2, a3, a4⟩ := args w2 hb2) | (go_at_call 9; refine (ccalls _ hb2).mono ?_; rintro e w3 ⟨rfl, hb3⟩; have hb3' : Below w1.heap.size w1 (w3.alloc (.cells #[.int .i64 al, .int .i64 ac] 23)) := (hb2.trans (hb3.mono hb2.size)).alloc (by have := hb2.size; have := hb3.size; omega) _; obtain ⟨a0, a1, a2, a3, a4⟩ := args _ hb3') | (go_at_call 10; refine (rcalls _ hb3').mono ?_; rintro e w4 ⟨rfl, hb4⟩; have hb4' : Below (w3.alloc (.cells #[.int .i64 al, .int .i64 ac] 23)).heap.size (w3.alloc (.cells #[.int .i64 al, .int .i64 ac] 23)) (w4.alloc (.cells #[.int .i64 al, .int .i64 ac] 23)) := hb4.alloc hb4.size _; have x0 : (w4.alloc (.cells #[.int .i64 al, .int .i64 ac] 23)).cell? ⟨w3.heap.size, 0, none⟩ = some (.int .i64 al) := (hb4'.cell (p := ⟨w3.heap.size, 0, none⟩) (by simp)).trans (cell_of_row _ _ 0 _ _ _ (heap_alloc_new w3 _)); have x1 : (w4.alloc (.cells #[.int .i64 al, .int .i64 ac] 23)).cell? ⟨w3.heap.size, 1, none⟩ = some (.int .i64 ac) := (hb4'.cell (p := ⟨w3.heap.size, 1, none⟩) (by simp)).trans (cell_of_row _ _ 1 _ _ _ (heap_alloc_new w3 _))) | (go_at_call 11; refine (awake_ok _).mono ?_; rintro e w5 ⟨rfl, hb5⟩))
    go_ret
    refine ⟨rfl, ?_⟩
    have b3 := hb1.trans (hb3'.mono hb1.size)
    have b4 := b3.trans (hb4'.mono b3.size)
    exact b4.trans (hb5.mono b4.size)
  · have hnear' : nearB ⟨l, cc⟩ ⟨pos, old, now⟩ = false := by simpa using hnear
    have hnc := near_any ⟨l, cc⟩ ⟨pos, old, now⟩ oa na old.length oc now.length nc w1
    rw [hnear'] at hnc
    clear hnear hnear'
    go_enter Try.func3, Try.ntmps3
    go_wp2_with (go_at_call 8; refine hnc.mono ?_; rintro e w2 ⟨rfl, hb2⟩)
    go_ret
    exact ⟨rfl, hb1.trans (hb2.mono hb1.size)⟩

theorem move_order {p q a b : Po} {c : Ch} (h : p.l ≤ q.l) (ha : moveP p c = some a) (hb : moveP q c = some b) : a.l ≤ b.l := by
  unfold moveP at ha hb
  grind
set_option maxHeartbeats 4000000 in
theorem marksOrder_wide (p q : Po) (u : Tri) (c : Ch) (w : World) (hp0 : i64p p) (hq : i64p q) (hc : IsChW w u c) :
    Calls Try.prog 4 #[p.v, q.v, .agg #[u.1, u.2.1, u.2.2]] w fun e w' => e = .returned (.bool true) ∧ Below w.heap.size w w' := by
  obtain ⟨⟨⟨oa, oc, na, nc, rfl, ho, hn⟩, hp, -, -⟩, hol, hnl⟩ := hc
  obtain ⟨l, cc⟩ := p
  obtain ⟨l2, cc2⟩ := q
  obtain ⟨pos, old, now⟩ := c
  obtain ⟨hi1, hi2⟩ := hp0
  obtain ⟨hi3, hi4⟩ := hq
  show Calls _ _ #[.agg #[.int .i64 l, .int .i64 cc], .agg #[.int .i64 l2, .int .i64 cc2], .agg #[.int .i64 pos, .slice oa old.length oc, .slice na now.length nc]] w _
  obtain ⟨v1, hv1⟩ : ∃ v1, w.alloc (.cells #[.int .i64 l, .int .i64 cc] 23) = v1 := ⟨_, rfl⟩
  obtain ⟨v2, hv2⟩ : ∃ v2, v1.alloc (.cells #[.int .i64 l2, .int .i64 cc2] 23) = v2 := ⟨_, rfl⟩
  obtain ⟨w1, hw1⟩ : ∃ w1, v2.alloc (.cells #[.int .i64 pos, .slice oa old.length oc, .slice na now.length nc] 26) = w1 := ⟨_, rfl⟩
  have sv1 : v1.heap.size = w.heap.size + 1 := by rw [← hv1]; simp
  have sv2 : v2.heap.size = w.heap.size + 2 := by rw [← hv2]; simp [sv1]
  have hs1 : w1.heap.size = w.heap.size + 3 := by rw [← hw1]; simp [sv2]
  have bv1 : Below w.heap.size w v1 := by rw [← hv1]; exact (Below.refl _ w).alloc (Nat.le_refl _) _
  have bv2 : Below v1.heap.size v1 v2 := by rw [← hv2]; exact (Below.refl _ v1).alloc (Nat.le_refl _) _
  have bv3 : Below v2.heap.size v2 w1 := by rw [← hw1]; exact (Below.refl _ v2).alloc (Nat.le_refl _) _
  have hb1 : Below w.heap.size w w1 := (bv1.trans (bv2.mono bv1.size)).trans (bv3.mono (by omega))
  have gp : w1.heap[w.heap.size]? = some (.cells #[.int .i64 l, .int .i64 cc] 23 (0, 0)) := by
    rw [bv3.block _ (by omega), bv2.block _ (by omega), ← hv1]
    exact heap_alloc_new w _
  have gq : w1.heap[w.heap.size + 1]? = some (.cells #[.int .i64 l2, .int .i64 cc2] 23 (0, 0)) := by
    rw [bv3.block _ (by omega), ← hv2, ← sv1]
    exact heap_alloc_new v1 _
  have gc : w1.heap[w.heap.size + 1 + 1]? = some (.cells #[.int .i64 pos, .slice oa old.length oc, .slice na now.length nc] 26 (0, 0)) := by
    rw [← hw1, show w.heap.size + 1 + 1 = v2.heap.size by omega]
    exact heap_alloc_new v2 _
  have hww : ((w.alloc (.cells #[.int .i64 l, .int .i64 cc] 23)).alloc (.cells #[.int .i64 l2, .int .i64 cc2] 23)).alloc (.cells #[.int .i64 pos, .slice oa old.length oc, .slice na now.length nc] 26) = w1 := by rw [hv1, hv2, hw1]
  have args : ∀ W : World, Below w1.heap.size w1 W → W.cell? ⟨w.heap.size, 0, none⟩ = some (.int .i64 l) ∧ W.cell? ⟨w.heap.size, 1, none⟩ = some (.int .i64 cc) ∧ W.cell? ⟨w.heap.size + 1, 0, none⟩ = some (.int .i64 l2) ∧ W.cell? ⟨w.heap.size + 1, 1, none⟩ = some (.int .i64 cc2) ∧ W.cell? ⟨w.heap.size + 1 + 1, 0, none⟩ = some (.int .i64 pos) ∧ W.cell? ⟨w.heap.size + 1 + 1, 1, none⟩ = some (.slice oa old.length oc) ∧ W.cell? ⟨w.heap.size + 1 + 1, 2, none⟩ = some (.slice na now.length nc) := by
    intro W hW
    have g1 := (hW.block w.heap.size (by omega)).trans gp
    have g2 := (hW.block (w.heap.size + 1) (by omega)).trans gq
    have g3 := (hW.block (w.heap.size + 1 + 1) (by omega)).trans gc
    exact ⟨by rw [cell_row g1]; rfl, by rw [cell_row g1]; rfl, by rw [cell_row g2]; rfl, by rw [cell_row g2]; rfl, by rw [cell_row g3]; rfl, by rw [cell_row g3]; rfl, by rw [cell_row g3]; rfl⟩
  clear hv1 hv2 hw1 bv1 bv2 bv3 sv1 sv2 v1 v2
  obtain ⟨a0, a1, a2, a3, a4, a5, a6⟩ := args w1 (Below.refl _ _)
  have hn : RdL (fun k => k < w.heap.size) w na now.length nc now := hn
  have hol : old.length ≤ 35184372088832 := hol
  have hnl : now.length ≤ 35184372088832 := hnl
  have hnc := near_any ⟨l, cc⟩ ⟨pos, old, now⟩ oa na old.length oc now.length nc w1
  have hnc2 : ∀ W : World, Calls Try.prog 8 #[.agg #[.int .i64 l2, .int .i64 cc2], .agg #[.int .i64 pos, .slice oa old.length oc, .slice na now.length nc]] W fun e w' => e = .returned (.bool (nearB ⟨l2, cc2⟩ ⟨pos, old, now⟩)) ∧ Below W.heap.size W w' := fun W => near_any ⟨l2, cc2⟩ ⟨pos, old, now⟩ oa na old.length oc now.length nc W
  have tok1 : True := trivial
  have tok2 : True := trivial
  by_cases hn1 : nearB ⟨l, cc⟩ ⟨pos, old, now⟩ = true
  · by_cases hn2 : nearB ⟨l2, cc2⟩ ⟨pos, old, now⟩ = true
    · by_cases hlt : l2 < l
      · rw [hn1] at hnc
        rw [hn2] at hnc2
        clear hn1 hn2 gp gq gc
        go_enter Try.func4, Try.ntmps4
        go_wp2_with (first | (go_at_call 8; have _t := tok1; refine hnc.mono ?_; rintro e w2 ⟨rfl, hb2⟩; obtain ⟨a0, a1, a2, a3, a4, a5, a6⟩ := args w2 hb2; clear tok1 _t) | (go_at_call 8; have _t := tok2; refine (hnc2 _).mono ?_; rintro e w3 ⟨rfl, hb3⟩; have hb3' := hb2.trans (hb3.mono hb2.size); obtain ⟨a0, a1, a2, a3, a4, a5, a6⟩ := args w3 hb3'; clear tok2 _t) | (go_at_call 11; refine (awake_ok _).mono ?_; rintro e w5 ⟨rfl, hb5⟩))
        go_ret
        have b3 := hb1.trans (hb3'.mono hb1.size)
        exact ⟨rfl, b3.trans (hb5.mono b3.size)⟩
      · have hm1 : NearM ⟨l, cc⟩ ⟨pos, old, now⟩ := by
          simp only [nearB, decide_eq_true_eq] at hn1
          simp only [NearM]
          omega
        have hm2 : NearM ⟨l2, cc2⟩ ⟨pos, old, now⟩ := by
          simp only [nearB, decide_eq_true_eq] at hn2
          simp only [NearM]
          omega
        have c1calls : ∀ W : World, Below w1.heap.size w1 W → Calls Try.prog 9 #[.agg #[.int .i64 l, .int .i64 cc], .agg #[.int .i64 pos, .slice oa old.length oc, .slice na now.length nc]] W fun e w' => e = .returned (ansV (moveP ⟨l, cc⟩ ⟨pos, old, now⟩)) ∧ Below W.heap.size W w' := fun W hW =>
          move_any ⟨l, cc⟩ ⟨pos, old, now⟩ oa na oc nc _ W (hn.below (hb1.trans (hW.mono hb1.size))) hm1 hi2
        have c2calls : ∀ W : World, Below w1.heap.size w1 W → Calls Try.prog 9 #[.agg #[.int .i64 l2, .int .i64 cc2], .agg #[.int .i64 pos, .slice oa old.length oc, .slice na now.length nc]] W fun e w' => e = .returned (ansV (moveP ⟨l2, cc2⟩ ⟨pos, old, now⟩)) ∧ Below W.heap.size W w' := fun W hW =>
          move_any ⟨l2, cc2⟩ ⟨pos, old, now⟩ oa na oc nc _ W (hn.below (hb1.trans (hW.mono hb1.size))) hm2 hi4
        rw [hn1] at hnc
        rw [hn2] at hnc2
        obtain ⟨o1, ho1⟩ : ∃ o, moveP ⟨l, cc⟩ ⟨pos, old, now⟩ = o := ⟨_, rfl⟩
        obtain ⟨o2, ho2⟩ : ∃ o, moveP ⟨l2, cc2⟩ ⟨pos, old, now⟩ = o := ⟨_, rfl⟩
        obtain ⟨⟨al, ac⟩, ha⟩ : ∃ a, o1.getD po0 = a := ⟨_, rfl⟩
        obtain ⟨bb, hbb⟩ : ∃ b, o1.isSome = b := ⟨_, rfl⟩
        obtain ⟨⟨bl, bc⟩, hb⟩ : ∃ a, o2.getD po0 = a := ⟨_, rfl⟩
        obtain ⟨b2, hb2b⟩ : ∃ b, o2.isSome = b := ⟨_, rfl⟩
        have hans1 : ansV o1 = .tuple #[.agg #[.int .i64 al, .int .i64 ac], .bool bb] := by unfold ansV; rw [ha, hbb]; rfl
        have hans2 : ansV o2 = .tuple #[.agg #[.int .i64 bl, .int .i64 bc], .bool b2] := by unfold ansV; rw [hb, hb2b]; rfl
        rw [ho1, hans1] at c1calls
        rw [ho2, hans2] at c2calls
        have hord : bb = true → b2 = true → al ≤ bl := by
          intro e1 e2
          rw [← hbb] at e1
          rw [← hb2b] at e2
          obtain ⟨x, rfl⟩ := Option.isSome_iff_exists.1 e1
          obtain ⟨y, rfl⟩ := Option.isSome_iff_exists.1 e2
          have := move_order (p := ⟨l, cc⟩) (q := ⟨l2, cc2⟩) (by simp only; omega) ho1 ho2
          simp only [Option.getD_some] at ha hb
          subst ha hb
          exact this
        have HM1 := Lib.hid hm1
        clear hans1 hans2 ha hbb hb hb2b ho1 ho2 hm1 hm2 hn1 hn2 ho hn hp gp gq gc o1 o2
        have tok3 : True := trivial
        have tok4 : True := trivial
        have HO := Lib.hid hord
        clear hord
        have fin : ∀ w6 w7 w5 : World, Below w1.heap.size w1 (w6.alloc (.cells #[.int .i64 al, .int .i64 ac] 23)) → Below (w6.alloc (.cells #[.int .i64 al, .int .i64 ac] 23)).heap.size (w6.alloc (.cells #[.int .i64 al, .int .i64 ac] 23)) (w7.alloc (.cells #[.int .i64 bl, .int .i64 bc] 23)) → Below (w7.alloc (.cells #[.int .i64 bl, .int .i64 bc] 23)).heap.size (w7.alloc (.cells #[.int .i64 bl, .int .i64 bc] 23)) w5 → Below w.heap.size w w5 := fun w6 w7 w5 k1 k2 k3 => by
          have b6 := hb1.trans (k1.mono hb1.size)
          have b7 := b6.trans (k2.mono b6.size)
          exact b7.trans (k3.mono b7.size)
        have FIN := Lib.hid fin
        clear fin
        cases bb with
        | false =>
          clear HO
          go_enter Try.func4, Try.ntmps4
          go_wp2_with (first | (go_at_call 8; have _t := tok1; refine hnc.mono ?_; rintro e w2 ⟨rfl, hb2⟩; obtain ⟨a0, a1, a2, a3, a4, a5, a6⟩ := args w2 hb2; clear tok1 _t) | (go_at_call 8; have _t := tok2; refine (hnc2 _).mono ?_; rintro e w3 ⟨rfl, hb3⟩; have hb3' := hb2.trans (hb3.mono hb2.size); obtain ⟨a0, a1, a2, a3, a4, a5, a6⟩ := args w3 hb3'; clear tok2 _t) | (go_at_call 9; have _t := tok3; refine (c1calls _ hb3').mono ?_; rintro e w6 ⟨rfl, hb6⟩; have hb6' : Below w1.heap.size w1 (w6.alloc (.cells #[.int .i64 al, .int .i64 ac] 23)) := (hb3'.trans (hb6.mono hb3'.size)).alloc (by have := hb3'.size; have := hb6.size; omega) _; obtain ⟨a0, a1, a2, a3, a4, a5, a6⟩ := args _ hb6'; clear tok3 _t) | (go_at_call 9; have _t := tok4; refine (c2calls _ hb6').mono ?_; rintro e w7 ⟨rfl, hb7⟩; have hb7' : Below (w6.alloc (.cells #[.int .i64 al, .int .i64 ac] 23)).heap.size (w6.alloc (.cells #[.int .i64 al, .int .i64 ac] 23)) (w7.alloc (.cells #[.int .i64 bl, .int .i64 bc] 23)) := hb7.alloc hb7.size _; have x0 : (w7.alloc (.cells #[.int .i64 bl, .int .i64 bc] 23)).cell? ⟨w6.heap.size, 0, none⟩ = some (.int .i64 al) := (hb7'.cell (p := ⟨w6.heap.size, 0, none⟩) (by simp)).trans (cell_of_row _ _ 0 _ _ _ (heap_alloc_new w6 _)); clear tok4 _t) | (go_at_call 11; refine (awake_ok _).mono ?_; rintro e w5 ⟨rfl, hb5⟩))
          go_ret
          exact ⟨rfl, FIN.out _ _ _ hb6' hb7' hb5⟩
        | true =>
          cases b2 with
          | false =>
            clear HO
            go_enter Try.func4, Try.ntmps4
            go_wp2_with (first | (go_at_call 8; have _t := tok1; refine hnc.mono ?_; rintro e w2 ⟨rfl, hb2⟩; obtain ⟨a0, a1, a2, a3, a4, a5, a6⟩ := args w2 hb2; clear tok1 _t) | (go_at_call 8; have _t := tok2; refine (hnc2 _).mono ?_; rintro e w3 ⟨rfl, hb3⟩; have hb3' := hb2.trans (hb3.mono hb2.size); obtain ⟨a0, a1, a2, a3, a4, a5, a6⟩ := args w3 hb3'; clear tok2 _t) | (go_at_call 9; have _t := tok3; refine (c1calls _ hb3').mono ?_; rintro e w6 ⟨rfl, hb6⟩; have hb6' : Below w1.heap.size w1 (w6.alloc (.cells #[.int .i64 al, .int .i64 ac] 23)) := (hb3'.trans (hb6.mono hb3'.size)).alloc (by have := hb3'.size; have := hb6.size; omega) _; obtain ⟨a0, a1, a2, a3, a4, a5, a6⟩ := args _ hb6'; clear tok3 _t) | (go_at_call 9; have _t := tok4; refine (c2calls _ hb6').mono ?_; rintro e w7 ⟨rfl, hb7⟩; have hb7' : Below (w6.alloc (.cells #[.int .i64 al, .int .i64 ac] 23)).heap.size (w6.alloc (.cells #[.int .i64 al, .int .i64 ac] 23)) (w7.alloc (.cells #[.int .i64 bl, .int .i64 bc] 23)) := hb7.alloc hb7.size _; have x0 : (w7.alloc (.cells #[.int .i64 bl, .int .i64 bc] 23)).cell? ⟨w6.heap.size, 0, none⟩ = some (.int .i64 al) := (hb7'.cell (p := ⟨w6.heap.size, 0, none⟩) (by simp)).trans (cell_of_row _ _ 0 _ _ _ (heap_alloc_new w6 _)); clear tok4 _t) | (go_at_call 11; refine (awake_ok _).mono ?_; rintro e w5 ⟨rfl, hb5⟩))
            go_ret
            exact ⟨rfl, FIN.out _ _ _ hb6' hb7' hb5⟩
          | true =>
            have hle := HO.out rfl rfl
            clear HO
            go_enter Try.func4, Try.ntmps4
            go_wp2_with (first | (go_at_call 8; have _t := tok1; refine hnc.mono ?_; rintro e w2 ⟨rfl, hb2⟩; obtain ⟨a0, a1, a2, a3, a4, a5, a6⟩ := args w2 hb2; clear tok1 _t) | (go_at_call 8; have _t := tok2; refine (hnc2 _).mono ?_; rintro e w3 ⟨rfl, hb3⟩; have hb3' := hb2.trans (hb3.mono hb2.size); obtain ⟨a0, a1, a2, a3, a4, a5, a6⟩ := args w3 hb3'; clear tok2 _t) | (go_at_call 9; have _t := tok3; refine (c1calls _ hb3').mono ?_; rintro e w6 ⟨rfl, hb6⟩; have hb6' : Below w1.heap.size w1 (w6.alloc (.cells #[.int .i64 al, .int .i64 ac] 23)) := (hb3'.trans (hb6.mono hb3'.size)).alloc (by have := hb3'.size; have := hb6.size; omega) _; obtain ⟨a0, a1, a2, a3, a4, a5, a6⟩ := args _ hb6'; clear tok3 _t) | (go_at_call 9; have _t := tok4; refine (c2calls _ hb6').mono ?_; rintro e w7 ⟨rfl, hb7⟩; have hb7' : Below (w6.alloc (.cells #[.int .i64 al, .int .i64 ac] 23)).heap.size (w6.alloc (.cells #[.int .i64 al, .int .i64 ac] 23)) (w7.alloc (.cells #[.int .i64 bl, .int .i64 bc] 23)) := hb7.alloc hb7.size _; have x0 : (w7.alloc (.cells #[.int .i64 bl, .int .i64 bc] 23)).cell? ⟨w6.heap.size, 0, none⟩ = some (.int .i64 al) := (hb7'.cell (p := ⟨w6.heap.size, 0, none⟩) (by simp)).trans (cell_of_row _ _ 0 _ _ _ (heap_alloc_new w6 _)); clear tok4 _t) | (go_at_call 11; refine (awake_ok _).mono ?_; rintro e w5 ⟨rfl, hb5⟩))
            go_ret
            exact ⟨rfl, FIN.out _ _ _ hb6' hb7' hb5⟩
    · have hn2' : nearB ⟨l2, cc2⟩ ⟨pos, old, now⟩ = false := by simpa using hn2
      rw [hn1] at hnc
      rw [hn2'] at hnc2
      clear hn1 hn2 hn2' gp gq gc
      go_enter Try.func4, Try.ntmps4
      go_wp2_with (first | (go_at_call 8; have _t := tok1; refine hnc.mono ?_; rintro e w2 ⟨rfl, hb2⟩; obtain ⟨a0, a1, a2, a3, a4, a5, a6⟩ := args w2 hb2; clear tok1 _t) | (go_at_call 8; have _t := tok2; refine (hnc2 _).mono ?_; rintro e w3 ⟨rfl, hb3⟩; have hb3' := hb2.trans (hb3.mono hb2.size); obtain ⟨a0, a1, a2, a3, a4, a5, a6⟩ := args w3 hb3'; clear tok2 _t) | (go_at_call 11; refine (awake_ok _).mono ?_; rintro e w5 ⟨rfl, hb5⟩))
      go_ret
      have b3 := hb1.trans (hb3'.mono hb1.size)
      exact ⟨rfl, b3.trans (hb5.mono b3.size)⟩
  · have hn1' : nearB ⟨l, cc⟩ ⟨pos, old, now⟩ = false := by simpa using hn1
    rw [hn1'] at hnc
    clear hn1 hn1' gp gq gc
    go_enter Try.func4, Try.ntmps4
    go_wp2_with (first | (go_at_call 8; have _t := tok1; refine hnc.mono ?_; rintro e w2 ⟨rfl, hb2⟩; clear tok1 _t) | (go_at_call 11; refine (awake_ok _).mono ?_; rintro e w5 ⟨rfl, hb5⟩))
    go_ret
    have b3 := hb1.trans (hb2.mono hb1.size)
    exact ⟨rfl, b3.trans (hb5.mono b3.size)⟩
end Go.Proofs.Ytbgbhlnidabhnaa.U
