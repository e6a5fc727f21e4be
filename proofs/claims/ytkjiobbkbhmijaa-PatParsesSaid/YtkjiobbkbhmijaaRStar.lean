/-
  The program's starred and group: a part of one part.
-/
import Derived.Test.YtkjiobbkbhmijaaRParts
namespace Go.Proofs.Ytkjiobbkbhmijaa.U
open Go.RowKit
set_option linter.unusedVariables false
set_option linter.unusedSimpArgs false
set_option maxRecDepth 100000

theorem star_sz (x : Re) (lo hi : Int) : (x.star lo hi).sz = 1 + x.sz * tms lo hi := by simp [Re.star, Re.sz, szs]
theorem grp_sz (x : Re) (n : Nat) : (x.grp n).sz = 1 + x.sz := by simp [Re.grp, Re.sz, szs]
/-- a part of one part, which lies in a row that has just been laid -/
theorem ReAt.wrap {F : Nat → Prop} {w w2 : World} {v : List Value} {x : Re} (h : ReAt F w v x) (hb : Below w.heap.size w w2) (b : Nat) (ty : TypeId)
    (hg : w2.heap[b]? = some (.cells v.toArray ty (0, 0))) (k lo hi : Int) :
    ReAt (fun j => F j ∨ j = b) w2 (rev k 0 (.slice none 0 0) false lo hi (.slice (some ⟨b, 0, none⟩) 1 1)) (.mk k 0 [] false lo hi [x]) := by
  have hl := h.rev7.len
  unfold ReAt
  refine ⟨none, 0, some ⟨b, 0, none⟩, 1, rfl, Rc.none0 _ _, InF.zero _ _, v, ⟨by rw [hl]; rfl, Nat.le_refl _, by unfold maxLen; simp, (fun e => by cases e), fun _ => ⟨b, 0, rfl, heap_lt hg, fun j u hu => ?_⟩⟩, fun _ ad e => ?_, ?_⟩
  · rw [cell_row hg, Nat.zero_add]
    simpa using hu
  · cases e
    exact Or.inr rfl
  · exact PsAt.mono (fun k hk => Or.inl hk) [x] (PsAt.frF (Fr.of_below (fun _ => False) hb) (fun _ _ h => h) [x] (PsAt.one h))

set_option maxHeartbeats 1000000 in
theorem starred_any (F : Nat → Prop) (x : Re) (v : List Value) (lo hi : Int) (w : World) (h : PtAt F w v x) (hF : ∀ k, F k → k < w.heap.size) (hlo : -1 ≤ lo ∧ lo ≤ 100) (hhi : -1 ≤ hi ∧ hi ≤ 100) :
    Calls Try.prog 47 #[ptV v x, .int .i64 lo, .int .i64 hi] w fun e w' => ∃ v', e = .returned (ptV v' (x.star lo hi)) ∧ Hid (PtAt (fun k => F k ∨ New w w' k) w' v' (x.star lo hi)) ∧ Below w.heap.size w w' := by
  obtain ⟨k, r, sa, sn, sc, nt, l0, h0, pa, pn, pc, hv⟩ := h.rev7
  obtain ⟨s, hs⟩ : ∃ s : Int, ((min x.sz 401 : Nat) : Int) = s := ⟨_, rfl⟩
  have hsb : 0 ≤ s ∧ s ≤ 401 := by omega
  have hpt : ptV v x = .agg #[.int .i64 k, .int .i32 r, .slice sa sn sc, .bool nt, .int .i64 l0, .int .i64 h0, .slice pa pn pc, .int .i64 s] := by unfold ptV; rw [hv, hs]; rfl
  rw [hpt]
  obtain ⟨m, hm⟩ : ∃ m, max (max 1 lo) hi = m := ⟨_, rfl⟩
  have hmb : 1 ≤ m ∧ m ≤ 100 := by omega
  have hmt : ((tms lo hi : Nat) : Int) = m := by unfold tms; omega
  obtain ⟨pm, hpm⟩ : ∃ pm, s * m = pm := ⟨_, rfl⟩
  have hpmb : 0 ≤ pm ∧ pm ≤ 40100 := by
    rw [← hpm]
    constructor
    · exact Int.mul_nonneg hsb.1 (by omega)
    · exact Int.le_trans (Int.mul_le_mul hsb.2 hmb.2 (by omega) (by omega)) (by omega)
  obtain ⟨w1, hw1⟩ : ∃ w1, (w.alloc (.cells #[.int .i64 k, .int .i32 r, .slice sa sn sc, .bool nt, .int .i64 l0, .int .i64 h0, .slice pa pn pc, .int .i64 s] 55)).alloc (.cells #[.int .i64 0, .int .i32 0, .slice none 0 0, .bool false, .int .i64 0, .int .i64 0, .slice none 0 0, .int .i64 0] 55) = w1 := ⟨_, rfl⟩
  have hb1 : Below w.heap.size w w1 := by rw [← hw1]; exact ((Below.refl _ w).alloc (Nat.le_refl _) _).alloc (by simp) _
  have hz1 : w1.heap.size = w.heap.size + 2 := by rw [← hw1]; simp
  have hgA : w1.heap[w.heap.size]? = some (.cells #[.int .i64 k, .int .i32 r, .slice sa sn sc, .bool nt, .int .i64 l0, .int .i64 h0, .slice pa pn pc, .int .i64 s] 55 (0, 0)) := by
    rw [← hw1, ((Below.refl _ (w.alloc _)).alloc (Nat.le_refl _) _).block _ (by simp)]
    exact heap_alloc_new w _
  have hgB : w1.heap[w.heap.size + 1]? = some (.cells #[.int .i64 0, .int .i32 0, .slice none 0 0, .bool false, .int .i64 0, .int .i64 0, .slice none 0 0, .int .i64 0] 55 (0, 0)) := by
    rw [← hw1]
    have := heap_alloc_new (w.alloc (.cells #[.int .i64 k, .int .i32 r, .slice sa sn sc, .bool nt, .int .i64 l0, .int .i64 h0, .slice pa pn pc, .int .i64 s] 55)) (.cells #[.int .i64 0, .int .i32 0, .slice none 0 0, .bool false, .int .i64 0, .int .i64 0, .slice none 0 0, .int .i64 0] 55)
    rw [show (w.alloc (.cells #[.int .i64 k, .int .i32 r, .slice sa sn sc, .bool nt, .int .i64 l0, .int .i64 h0, .slice pa pn pc, .int .i64 s] 55)).heap.size = w.heap.size + 1 by simp] at this
    exact this
  obtain ⟨w2, hw2⟩ : ∃ w2, w1.alloc (.cells #[.int .i64 k, .int .i32 r, .slice sa sn sc, .bool nt, .int .i64 l0, .int .i64 h0, .slice pa pn pc] 26) = w2 := ⟨_, rfl⟩
  have hb2 : Below w1.heap.size w1 w2 := by rw [← hw2]; exact (Below.refl _ w1).alloc (Nat.le_refl _) _
  have hgC : w2.heap[w.heap.size + 2]? = some (.cells #[.int .i64 k, .int .i32 r, .slice sa sn sc, .bool nt, .int .i64 l0, .int .i64 h0, .slice pa pn pc] 26 (0, 0)) := by rw [← hw2, ← hz1]; exact heap_alloc_new w1 _
  have hz2 : w2.heap.size = w.heap.size + 3 := by rw [← hw2]; simp [hz1]
  have hgA2 := (hb2.block (w.heap.size) (by omega)).trans hgA
  have hgB2 := (hb2.block (w.heap.size + 1) (by omega)).trans hgB
  obtain ⟨p0, p1, p2, p3, p4, p5, p6, p7, -, -, -, -, -, -, -, -⟩ := row8 hgA
  obtain ⟨q0, q1, q2, q3, q4, q5, q6, q7, -, -, -, -, -, -, -, -⟩ := row8 hgA2
  have hb02 : Below w.heap.size w w2 := hb1.trans (hb2.mono hb1.size)
  have hx : (x.star lo hi).sz ≤ 400 → ReAt (fun j => F j ∨ j = w1.heap.size) w2 [.int .i64 10, .int .i32 0, .slice none 0 0, .bool false, .int .i64 lo, .int .i64 hi, .slice (some ⟨w1.heap.size, 0, none⟩) 1 1] (x.star lo hi) := by
    intro hle
    have hle' : x.sz ≤ 400 := by
      rw [star_sz] at hle
      have h1 : 1 ≤ tms lo hi := by omega
      have := Nat.mul_le_mul_left x.sz h1
      omega
    have := h.1 hle'
    rw [hv] at this
    rw [hz1]
    exact this.wrap hb02 (w.heap.size + 2) _ hgC _ _ _
  have hsz : 1 + pm = ((min (x.star lo hi).sz 401 : Nat) : Int) ∨ (401 ≤ 1 + pm ∧ 401 ≤ (x.star lo hi).sz) := by
    rw [star_sz, ← hpm, ← hmt]
    have h1 : 1 ≤ tms lo hi := by omega
    by_cases hxs : x.sz ≤ 400
    · have h2 : s = (x.sz : Nat) := by omega
      rw [h2, ← Int.natCast_mul]
      omega
    · have h2 : s = ((401 : Nat) : Int) := by omega
      rw [h2, ← Int.natCast_mul]
      have h3 := Nat.mul_le_mul (show 401 ≤ x.sz by omega) (Nat.le_refl (tms lo hi))
      have h4 := Nat.mul_le_mul_left 401 h1
      omega
  have HSZ := Lib.hid hsz
  have HX := Lib.hid hx
  have HB02 := Lib.hid hb02
  have HGB2 := Lib.hid hgB2
  have HZ2 := Lib.hid hz2
  have HZ1 := Lib.hid hz1
  have HPT := Lib.hid hpt
  have HF := Lib.hid hF
  clear hmt hsz hx hb02 hgA hgB hgC hgA2 hgB2 hs hz2 hpt hv h hb1 hb2 hz1 hF
  obtain ⟨hs0, hs1⟩ := hsb
  obtain ⟨hp0, hp1⟩ := hpmb
  obtain ⟨hl0, hl1⟩ := hlo
  obtain ⟨hh0, hh1⟩ := hhi
  have hcase : (m = 1 ∧ lo ≤ 1 ∧ hi ≤ 1) ∨ (m = lo ∧ 1 < lo ∧ hi ≤ lo) ∨ (m = hi ∧ 1 < hi ∧ lo < hi) := by omega
  clear hm hmb
  rcases hcase with ⟨hml, c1, c2⟩ | ⟨hml, c1, c2⟩ | ⟨hml, c1, c2⟩ <;> rw [hml] at hpm <;> clear hml
  · rw [Int.mul_one] at hpm
    subst hpm
    go_enter Try.func47, Try.ntmps47
    go_wp2_with (go_at_call 46; refine (sized_any (fun j => F j ∨ j = w1.heap.size) (x.star lo hi) 10 0 none 0 0 false lo hi (some ⟨w1.heap.size, 0, none⟩) 1 1 _ HSZ.out w2 w2 HX.out).mono ?_; rintro e w3 ⟨v3, rfl, H3, hb3⟩; obtain ⟨k3, r3, sa3, sn3, sc3, nt3, l3, h3, pa3, pn3, pc3, hv3⟩ := H3.out.rev7; have hpt3 : ptV v3 (x.star lo hi) = .agg #[.int .i64 k3, .int .i32 r3, .slice sa3 sn3 sc3, .bool nt3, .int .i64 l3, .int .i64 h3, .slice pa3 pn3 pc3, .int .i64 (min (x.star lo hi).sz 401 : Nat)] := (by (unfold ptV; rw [hv3]; rfl)); rw [hpt3]; have HV3 := Lib.hid hv3; have HPT3 := Lib.hid hpt3; clear hv3 hpt3; obtain ⟨b0, b1, b2, b3, b4, b5, b6, b7, z0, z1, z2, z3, z4, z5, z6, z7⟩ := row8 ((hb3.block _ (by have := HZ2.out; omega)).trans HGB2.out))
    refine bodyPost_ret (v := .agg #[.int .i64 k3, .int .i32 r3, .slice sa3 sn3 sc3, .bool nt3, .int .i64 l3, .int .i64 h3, .slice pa3 pn3 pc3, .int .i64 (min (x.star lo hi).sz 401 : Nat)]) ?_ rfl ⟨v3, by rw [HPT3.out], ?_, ?_⟩
    · rw [results_cell1 rfl]
      go_simp
    · have h1 := HZ1.out
      have h2 := HZ2.out
      have h3 := hb3.size
      have hfr : ∀ W : World, Fr (fun j => j = w.heap.size + 1) w3 W → PtAt (fun j => F j ∨ New w W j) W v3 (x.star lo hi) := by
        intro W hf
        have h4 := hf.size
        refine ((H3.out.frF (Fr.of_below (fun _ => False) hb3) (fun _ _ h => h)).frF hf ?_).mono ?_
        · rintro k (h | h) e
          · have := HF.out k h; omega
          · omega
        · rintro k (h | h)
          · exact Or.inl h
          · exact Or.inr ⟨by omega, by omega⟩
      refine hfr _ ?_
      (repeat' (refine Fr.setCell ?_ _ _ ?_)) <;> first | exact Fr.refl _ _ | exact fun _ => rfl
    · have h03 := HB02.out.trans (hb3.mono HB02.out.size)
      (repeat' (refine setCell_below ?_ _ _ _ ?_)) <;> first | assumption | omega
  · go_enter Try.func47, Try.ntmps47
    go_wp2_with (go_at_call 46; refine (sized_any (fun j => F j ∨ j = w1.heap.size) (x.star lo hi) 10 0 none 0 0 false lo hi (some ⟨w1.heap.size, 0, none⟩) 1 1 _ HSZ.out w2 w2 HX.out).mono ?_; rintro e w3 ⟨v3, rfl, H3, hb3⟩; obtain ⟨k3, r3, sa3, sn3, sc3, nt3, l3, h3, pa3, pn3, pc3, hv3⟩ := H3.out.rev7; have hpt3 : ptV v3 (x.star lo hi) = .agg #[.int .i64 k3, .int .i32 r3, .slice sa3 sn3 sc3, .bool nt3, .int .i64 l3, .int .i64 h3, .slice pa3 pn3 pc3, .int .i64 (min (x.star lo hi).sz 401 : Nat)] := (by (unfold ptV; rw [hv3]; rfl)); rw [hpt3]; have HV3 := Lib.hid hv3; have HPT3 := Lib.hid hpt3; clear hv3 hpt3; obtain ⟨b0, b1, b2, b3, b4, b5, b6, b7, z0, z1, z2, z3, z4, z5, z6, z7⟩ := row8 ((hb3.block _ (by have := HZ2.out; omega)).trans HGB2.out))
    refine bodyPost_ret (v := .agg #[.int .i64 k3, .int .i32 r3, .slice sa3 sn3 sc3, .bool nt3, .int .i64 l3, .int .i64 h3, .slice pa3 pn3 pc3, .int .i64 (min (x.star lo hi).sz 401 : Nat)]) ?_ rfl ⟨v3, by rw [HPT3.out], ?_, ?_⟩
    · rw [results_cell1 rfl]
      go_simp
    · have h1 := HZ1.out
      have h2 := HZ2.out
      have h3 := hb3.size
      have hfr : ∀ W : World, Fr (fun j => j = w.heap.size + 1) w3 W → PtAt (fun j => F j ∨ New w W j) W v3 (x.star lo hi) := by
        intro W hf
        have h4 := hf.size
        refine ((H3.out.frF (Fr.of_below (fun _ => False) hb3) (fun _ _ h => h)).frF hf ?_).mono ?_
        · rintro k (h | h) e
          · have := HF.out k h; omega
          · omega
        · rintro k (h | h)
          · exact Or.inl h
          · exact Or.inr ⟨by omega, by omega⟩
      refine hfr _ ?_
      (repeat' (refine Fr.setCell ?_ _ _ ?_)) <;> first | exact Fr.refl _ _ | exact fun _ => rfl
    · have h03 := HB02.out.trans (hb3.mono HB02.out.size)
      (repeat' (refine setCell_below ?_ _ _ _ ?_)) <;> first | assumption | omega
  · go_enter Try.func47, Try.ntmps47
    go_wp2_with (go_at_call 46; refine (sized_any (fun j => F j ∨ j = w1.heap.size) (x.star lo hi) 10 0 none 0 0 false lo hi (some ⟨w1.heap.size, 0, none⟩) 1 1 _ HSZ.out w2 w2 HX.out).mono ?_; rintro e w3 ⟨v3, rfl, H3, hb3⟩; obtain ⟨k3, r3, sa3, sn3, sc3, nt3, l3, h3, pa3, pn3, pc3, hv3⟩ := H3.out.rev7; have hpt3 : ptV v3 (x.star lo hi) = .agg #[.int .i64 k3, .int .i32 r3, .slice sa3 sn3 sc3, .bool nt3, .int .i64 l3, .int .i64 h3, .slice pa3 pn3 pc3, .int .i64 (min (x.star lo hi).sz 401 : Nat)] := (by (unfold ptV; rw [hv3]; rfl)); rw [hpt3]; have HV3 := Lib.hid hv3; have HPT3 := Lib.hid hpt3; clear hv3 hpt3; obtain ⟨b0, b1, b2, b3, b4, b5, b6, b7, z0, z1, z2, z3, z4, z5, z6, z7⟩ := row8 ((hb3.block _ (by have := HZ2.out; omega)).trans HGB2.out))
    refine bodyPost_ret (v := .agg #[.int .i64 k3, .int .i32 r3, .slice sa3 sn3 sc3, .bool nt3, .int .i64 l3, .int .i64 h3, .slice pa3 pn3 pc3, .int .i64 (min (x.star lo hi).sz 401 : Nat)]) ?_ rfl ⟨v3, by rw [HPT3.out], ?_, ?_⟩
    · rw [results_cell1 rfl]
      go_simp
    · have h1 := HZ1.out
      have h2 := HZ2.out
      have h3 := hb3.size
      have hfr : ∀ W : World, Fr (fun j => j = w.heap.size + 1) w3 W → PtAt (fun j => F j ∨ New w W j) W v3 (x.star lo hi) := by
        intro W hf
        have h4 := hf.size
        refine ((H3.out.frF (Fr.of_below (fun _ => False) hb3) (fun _ _ h => h)).frF hf ?_).mono ?_
        · rintro k (h | h) e
          · have := HF.out k h; omega
          · omega
        · rintro k (h | h)
          · exact Or.inl h
          · exact Or.inr ⟨by omega, by omega⟩
      refine hfr _ ?_
      (repeat' (refine Fr.setCell ?_ _ _ ?_)) <;> first | exact Fr.refl _ _ | exact fun _ => rfl
    · have h03 := HB02.out.trans (hb3.mono HB02.out.size)
      (repeat' (refine setCell_below ?_ _ _ _ ?_)) <;> first | assumption | omega

set_option maxHeartbeats 1000000 in
theorem group_any (F : Nat → Prop) (x : Re) (v : List Value) (n : Nat) (w : World) (h : PtAt F w v x) (hF : ∀ k, F k → k < w.heap.size) :
    Calls Try.prog 57 #[ptV v x, .int .i64 (n : Nat)] w fun e w' => ∃ v', e = .returned (ptV v' (x.grp n)) ∧ Hid (PtAt (fun k => F k ∨ New w w' k) w' v' (x.grp n)) ∧ Below w.heap.size w w' := by
  obtain ⟨k, r, sa, sn, sc, nt, l0, h0, pa, pn, pc, hv⟩ := h.rev7
  obtain ⟨s, hs⟩ : ∃ s : Int, ((min x.sz 401 : Nat) : Int) = s := ⟨_, rfl⟩
  have hsb : 0 ≤ s ∧ s ≤ 401 := by omega
  have hpt : ptV v x = .agg #[.int .i64 k, .int .i32 r, .slice sa sn sc, .bool nt, .int .i64 l0, .int .i64 h0, .slice pa pn pc, .int .i64 s] := by unfold ptV; rw [hv, hs]; rfl
  rw [hpt]
  obtain ⟨w1, hw1⟩ : ∃ w1, (w.alloc (.cells #[.int .i64 k, .int .i32 r, .slice sa sn sc, .bool nt, .int .i64 l0, .int .i64 h0, .slice pa pn pc, .int .i64 s] 55)).alloc (.cells #[.int .i64 0, .int .i32 0, .slice none 0 0, .bool false, .int .i64 0, .int .i64 0, .slice none 0 0, .int .i64 0] 55) = w1 := ⟨_, rfl⟩
  have hb1 : Below w.heap.size w w1 := by rw [← hw1]; exact ((Below.refl _ w).alloc (Nat.le_refl _) _).alloc (by simp) _
  have hz1 : w1.heap.size = w.heap.size + 2 := by rw [← hw1]; simp
  have hgA : w1.heap[w.heap.size]? = some (.cells #[.int .i64 k, .int .i32 r, .slice sa sn sc, .bool nt, .int .i64 l0, .int .i64 h0, .slice pa pn pc, .int .i64 s] 55 (0, 0)) := by
    rw [← hw1, ((Below.refl _ (w.alloc _)).alloc (Nat.le_refl _) _).block _ (by simp)]
    exact heap_alloc_new w _
  have hgB : w1.heap[w.heap.size + 1]? = some (.cells #[.int .i64 0, .int .i32 0, .slice none 0 0, .bool false, .int .i64 0, .int .i64 0, .slice none 0 0, .int .i64 0] 55 (0, 0)) := by
    rw [← hw1]
    have := heap_alloc_new (w.alloc (.cells #[.int .i64 k, .int .i32 r, .slice sa sn sc, .bool nt, .int .i64 l0, .int .i64 h0, .slice pa pn pc, .int .i64 s] 55)) (.cells #[.int .i64 0, .int .i32 0, .slice none 0 0, .bool false, .int .i64 0, .int .i64 0, .slice none 0 0, .int .i64 0] 55)
    rw [show (w.alloc (.cells #[.int .i64 k, .int .i32 r, .slice sa sn sc, .bool nt, .int .i64 l0, .int .i64 h0, .slice pa pn pc, .int .i64 s] 55)).heap.size = w.heap.size + 1 by simp] at this
    exact this
  obtain ⟨w2, hw2⟩ : ∃ w2, w1.alloc (.cells #[.int .i64 k, .int .i32 r, .slice sa sn sc, .bool nt, .int .i64 l0, .int .i64 h0, .slice pa pn pc] 26) = w2 := ⟨_, rfl⟩
  have hb2 : Below w1.heap.size w1 w2 := by rw [← hw2]; exact (Below.refl _ w1).alloc (Nat.le_refl _) _
  have hgC : w2.heap[w.heap.size + 2]? = some (.cells #[.int .i64 k, .int .i32 r, .slice sa sn sc, .bool nt, .int .i64 l0, .int .i64 h0, .slice pa pn pc] 26 (0, 0)) := by rw [← hw2, ← hz1]; exact heap_alloc_new w1 _
  have hz2 : w2.heap.size = w.heap.size + 3 := by rw [← hw2]; simp [hz1]
  have hgA2 := (hb2.block (w.heap.size) (by omega)).trans hgA
  have hgB2 := (hb2.block (w.heap.size + 1) (by omega)).trans hgB
  obtain ⟨p0, p1, p2, p3, p4, p5, p6, p7, -, -, -, -, -, -, -, -⟩ := row8 hgA
  obtain ⟨q0, q1, q2, q3, q4, q5, q6, q7, -, -, -, -, -, -, -, -⟩ := row8 hgA2
  have hb02 : Below w.heap.size w w2 := hb1.trans (hb2.mono hb1.size)
  have hx : (x.grp n).sz ≤ 400 → ReAt (fun j => F j ∨ j = w1.heap.size) w2 [.int .i64 11, .int .i32 0, .slice none 0 0, .bool false, .int .i64 (n : Nat), .int .i64 0, .slice (some ⟨w1.heap.size, 0, none⟩) 1 1] (x.grp n) := by
    intro hle
    have hle' : x.sz ≤ 400 := by
      rw [grp_sz] at hle
      omega
    have := h.1 hle'
    rw [hv] at this
    rw [hz1]
    exact this.wrap hb02 (w.heap.size + 2) _ hgC _ _ _
  have hsz : 1 + s = ((min (x.grp n).sz 401 : Nat) : Int) ∨ (401 ≤ 1 + s ∧ 401 ≤ (x.grp n).sz) := by
    rw [grp_sz]
    omega
  have HSZ := Lib.hid hsz
  have HX := Lib.hid hx
  have HB02 := Lib.hid hb02
  have HGB2 := Lib.hid hgB2
  have HZ2 := Lib.hid hz2
  have HZ1 := Lib.hid hz1
  have HPT := Lib.hid hpt
  have HF := Lib.hid hF
  clear hsz hx hb02 hgA hgB hgC hgA2 hgB2 hs hz2 hpt hv h hb1 hb2 hz1 hF
  go_enter Try.func57, Try.ntmps57
  go_wp2_with (go_at_call 46; refine (sized_any (fun j => F j ∨ j = w1.heap.size) (x.grp n) 11 0 none 0 0 false (n : Nat) 0 (some ⟨w1.heap.size, 0, none⟩) 1 1 _ HSZ.out w2 w2 HX.out).mono ?_; rintro e w3 ⟨v3, rfl, H3, hb3⟩; obtain ⟨k3, r3, sa3, sn3, sc3, nt3, l3, h3, pa3, pn3, pc3, hv3⟩ := H3.out.rev7; have hpt3 : ptV v3 (x.grp n) = .agg #[.int .i64 k3, .int .i32 r3, .slice sa3 sn3 sc3, .bool nt3, .int .i64 l3, .int .i64 h3, .slice pa3 pn3 pc3, .int .i64 (min (x.grp n).sz 401 : Nat)] := (by (unfold ptV; rw [hv3]; rfl)); rw [hpt3]; have HV3 := Lib.hid hv3; have HPT3 := Lib.hid hpt3; clear hv3 hpt3; obtain ⟨b0, b1, b2, b3, b4, b5, b6, b7, z0, z1, z2, z3, z4, z5, z6, z7⟩ := row8 ((hb3.block _ (by have := HZ2.out; omega)).trans HGB2.out))
  refine bodyPost_ret (v := .agg #[.int .i64 k3, .int .i32 r3, .slice sa3 sn3 sc3, .bool nt3, .int .i64 l3, .int .i64 h3, .slice pa3 pn3 pc3, .int .i64 (min (x.grp n).sz 401 : Nat)]) ?_ rfl ⟨v3, by rw [HPT3.out], ?_, ?_⟩
  · rw [results_cell1 rfl]
    go_simp
  · have h1 := HZ1.out
    have h2 := HZ2.out
    have h3 := hb3.size
    have hfr : ∀ W : World, Fr (fun j => j = w.heap.size + 1) w3 W → PtAt (fun j => F j ∨ New w W j) W v3 (x.grp n) := by
      intro W hf
      have h4 := hf.size
      refine ((H3.out.frF (Fr.of_below (fun _ => False) hb3) (fun _ _ h => h)).frF hf ?_).mono ?_
      · rintro k (h | h) e
        · have := HF.out k h; omega
        · omega
      · rintro k (h | h)
        · exact Or.inl h
        · exact Or.inr ⟨by omega, by omega⟩
    refine hfr _ ?_
    (repeat' (refine Fr.setCell ?_ _ _ ?_)) <;> first | exact Fr.refl _ _ | exact fun _ => rfl
  · have h03 := HB02.out.trans (hb3.mono HB02.out.size)
    (repeat' (refine setCell_below ?_ _ _ _ ?_)) <;> first | assumption | omega

end Go.Proofs.Ytkjiobbkbhmijaa.U
