/-
  The walk of WordWords. (MADE by wip/tools/gen_laws9.py.)
-/
import Derived.Test.YtnegijbdgefaoaaNAwake
import Derived.Test.YtnegijbdgefaoaaRHand
namespace Go.Proofs.Ytnegijbdgefaoaa.U
open Go.RowKit
set_option linter.unusedVariables false
set_option linter.unusedSimpArgs false
set_option maxRecDepth 100000


set_option maxHeartbeats 8000000 in
theorem wordWords_wide (a : Option Addr) (n c : Nat) (L : List (List Int)) (q : Po) (big : Bool) (W : World) (h : RdL (fun k => k < W.heap.size) W a n c L) (hq : i64p q)  (hw : WideL L) :
    Calls Try.prog 4 #[.slice a n c, q.v, .bool big] W fun e w' => e = .returned (.bool true) ∧ Below W.heap.size W w' := by
  obtain ⟨u, v⟩ := q
  obtain ⟨w1, hw1⟩ : ∃ w1, W.alloc (.cells #[.int .i64 u, .int .i64 v] 24) = w1 := ⟨_, rfl⟩
  have hb1 : Below W.heap.size W w1 := by rw [← hw1]; exact bal _ _
  have g1 : w1.heap[W.heap.size]? = some (.cells #[.int .i64 u, .int .i64 v] 24 (0, 0)) := by rw [← hw1]; exact heap_alloc_new W _
  obtain ⟨a0, a1, -, -⟩ := row2 g1
  have HS : Hid (∀ w' : World, Below w1.heap.size w1 w' → (fun w' => w'.cell? ⟨W.heap.size, 0, none⟩ = some (.int .i64 u) ∧ w'.cell? ⟨W.heap.size, 1, none⟩ = some (.int .i64 v)) w') := fun w' hb => ⟨(hb.cell (p := ⟨W.heap.size, 0, none⟩) (heap_lt g1)).trans a0, (hb.cell (p := ⟨W.heap.size, 1, none⟩) (heap_lt g1)).trans a1⟩
  have hL : ∀ w' : World, Below w1.heap.size w1 w' → RdL (fun k => k < W.heap.size) w' a n c L := fun w' hb => h.below (hb1.trans (hb.mono hb1.size))
  have hsz : smallL L = true → sizeN (lens L) ≤ 262144 := smallL_wide
  have HSM : Hid (∀ w' : World, Below w1.heap.size w1 w' → Calls Try.prog 10 #[.slice a n c] w' fun e w2 => e = .returned (.bool (smallL L)) ∧ Below w1.heap.size w1 w2) := fun w' hb => upC hb (eqC (small_wide _ a n c L w' (hL w' hb) hw))
  have HAW : Hid (∀ w' : World, Below w1.heap.size w1 w' → Calls Try.prog 15 #[] w' fun e w2 => e = .returned (.bool true) ∧ Below w1.heap.size w1 w2) := fun w' hb => upC hb (awake_any w')
  obtain ⟨⟨pi, pj⟩, hp⟩ : ∃ p, behindP L (if big then 1 else 0) (clipP L u v) = p := ⟨_, rfl⟩
  obtain ⟨⟨v_i, v_j⟩, hv_⟩ : ∃ p, beforeP L (if big then 1 else 0) (clipP L u v) = p := ⟨_, rfl⟩
  obtain ⟨⟨ei, ej⟩, he⟩ : ∃ p, behindP L (if big then 3 else 2) (clipP L u v) = p := ⟨_, rfl⟩
  obtain ⟨k1, hk1⟩ : ∃ k : Int, (if big then 1 else 0) = k := ⟨_, rfl⟩
  obtain ⟨k2, hk2⟩ : ∃ k : Int, (if big then 3 else 2) = k := ⟨_, rfl⟩
  rw [hk1] at hp hv_
  rw [hk2] at he
  have hkb1 : 0 ≤ k1 ∧ k1 ≤ 6 := by rw [← hk1]; cases big <;> decide
  have hkb2 : 0 ≤ k2 ∧ k2 ≤ 6 := by rw [← hk2]; cases big <;> decide
  have HSMQ : Hid (Calls Try.prog 10 #[.slice a n c] w1 fun e w2 => e = .returned (.bool (smallL L)) ∧ w1 = w2) := small_wide _ a n c L w1 (hL w1 (Below.refl _ _)) hw
  have HN1 : Hid (smallL L = true → ∀ w' : World, Below w1.heap.size w1 w' → Calls Try.prog 16 #[.slice a n c, .agg #[.int .i64 u, .int .i64 v], .bool big] w' fun e w2 => e = .returned (.agg #[.int .i64 (pi : Nat), .int .i64 (pj : Nat)]) ∧ Below w1.heap.size w1 w2) := fun hs w' hb => upC hb ((by have := wnext_any _ a n c L ⟨u, v⟩ big w' (hL w' hb) hq (hsz hs); rw [hk1] at this; rw [hp] at this; exact this))
  have HN2 : Hid (smallL L = true → ∀ w' : World, Below w1.heap.size w1 w' → Calls Try.prog 17 #[.slice a n c, .agg #[.int .i64 u, .int .i64 v], .int .i64 k1] w' fun e w2 => e = .returned (.agg #[.int .i64 (pi : Nat), .int .i64 (pj : Nat)]) ∧ Below w1.heap.size w1 w2) := fun hs w' hb => upC hb ((by have := rbehind_any _ a n c L ⟨u, v⟩ k1 w' (hL w' hb) hq (hsz hs) hkb1.1 hkb1.2; rw [hp] at this; exact this))
  have HP1 : Hid (smallL L = true → ∀ w' : World, Below w1.heap.size w1 w' → Calls Try.prog 18 #[.slice a n c, .agg #[.int .i64 u, .int .i64 v], .bool big] w' fun e w2 => e = .returned (.agg #[.int .i64 (v_i : Nat), .int .i64 (v_j : Nat)]) ∧ Below w1.heap.size w1 w2) := fun hs w' hb => upC hb ((by have := wprev_any _ a n c L ⟨u, v⟩ big w' (hL w' hb) hq (hsz hs); rw [hk1] at this; rw [hv_] at this; exact this))
  have HP2 : Hid (smallL L = true → ∀ w' : World, Below w1.heap.size w1 w' → Calls Try.prog 19 #[.slice a n c, .agg #[.int .i64 u, .int .i64 v], .int .i64 k1] w' fun e w2 => e = .returned (.agg #[.int .i64 (v_i : Nat), .int .i64 (v_j : Nat)]) ∧ Below w1.heap.size w1 w2) := fun hs w' hb => upC hb ((by have := rbefore_any _ a n c L ⟨u, v⟩ k1 w' (hL w' hb) hq (hsz hs) hkb1.1 hkb1.2; rw [hv_] at this; exact this))
  have HE1 : Hid (smallL L = true → ∀ w' : World, Below w1.heap.size w1 w' → Calls Try.prog 20 #[.slice a n c, .agg #[.int .i64 u, .int .i64 v], .bool big] w' fun e w2 => e = .returned (.agg #[.int .i64 (ei : Nat), .int .i64 (ej : Nat)]) ∧ Below w1.heap.size w1 w2) := fun hs w' hb => upC hb ((by have := wend_any _ a n c L ⟨u, v⟩ big w' (hL w' hb) hq (hsz hs); rw [hk2] at this; rw [he] at this; exact this))
  have HE2 : Hid (smallL L = true → ∀ w' : World, Below w1.heap.size w1 w' → Calls Try.prog 17 #[.slice a n c, .agg #[.int .i64 u, .int .i64 v], .int .i64 k2] w' fun e w2 => e = .returned (.agg #[.int .i64 (ei : Nat), .int .i64 (ej : Nat)]) ∧ Below w1.heap.size w1 w2) := fun hs w' hb => upC hb ((by have := rbehind_any _ a n c L ⟨u, v⟩ k2 w' (hL w' hb) hq (hsz hs) hkb2.1 hkb2.2; rw [he] at this; exact this))
  have HW1 := Lib.hid hw1
  have HB1 := Lib.hid hb1
  clear g1 hw1 hb1 h hL hsz
  obtain ⟨sm, hsm⟩ : ∃ sm, smallL L = sm := ⟨_, rfl⟩
  rw [hsm] at HSM HN1 HN2 HP1 HP2 HE1 HE2
  rw [hsm] at HSMQ
  clear hp hv_ he hkb1 hkb2
  show Calls Try.prog _ #[.slice a n c, .agg #[.int .i64 u, .int .i64 v], .bool big] W _
  cases sm with
  | false =>
    go_enter Try.func4, Try.ntmps4
    go_upto_region 1 with fail
    rw [HW1.out]
    go_wp2_with (go_at_call 10; refine (HSMQ.out).mono ?_; rintro e w2 ⟨rfl, hw2⟩; subst hw2)
    go_ret
    exact ⟨rfl, HB1.out⟩
  | true =>
    cases big with
    | true =>
      obtain rfl : 1 = k1 := hk1
      obtain rfl : 3 = k2 := hk2
      go_enter Try.func4, Try.ntmps4
      go_upto_region 1 with fail
      rw [HW1.out]
      go_wp2_with (go_at_call 10; refine (HSMQ.out).mono ?_; rintro e w2 ⟨rfl, hw2⟩; subst hw2)
      refine wp_region_held (S := fun w' => w'.cell? ⟨W.heap.size, 0, none⟩ = some (.int .i64 u) ∧ w'.cell? ⟨W.heap.size, 1, none⟩ = some (.int .i64 v)) (by kernel_rfl) ?_
      change wpAnyH _ _ _ _ _ _ _ _ (World.drew _)
      have hHeld : (fun w' => w'.cell? ⟨W.heap.size, 0, none⟩ = some (.int .i64 u) ∧ w'.cell? ⟨W.heap.size, 1, none⟩ = some (.int .i64 v)) (World.drew w1) := ⟨a0, a1⟩
      refine takeH 0 (some 13) (v := ?_) rfl rfl (by kernel_rfl) (by kernel_rfl) (by kernel_rfl) (fun _ _ _ h => h) (Or.inl ⟨by kernel_rfl, ?_⟩) hHeld ?_
      rotate_left
      · intro w' hSw
        (try dsimp only at hSw)
        go_simp
        try with_reducible rfl
      (try simp only [Act.put, List.setIfInBounds_toArray, List.set_cons_zero, List.set_cons_succ])
      refine takeH 1 (some 14) (v := ?_) rfl rfl (by kernel_rfl) (by kernel_rfl) (by kernel_rfl) (fun _ _ _ h => h) (Or.inl ⟨by kernel_rfl, ?_⟩) hHeld ?_
      rotate_left
      · intro w' hSw
        (try dsimp only at hSw)
        go_simp
        try with_reducible rfl
      (try simp only [Act.put, List.setIfInBounds_toArray, List.set_cons_zero, List.set_cons_succ])
      refine takeH 2 (some 15) (v := ?_) rfl rfl (by kernel_rfl) (by kernel_rfl) (by kernel_rfl) (fun _ _ _ h => h) (Or.inl ⟨by kernel_rfl, ?_⟩) hHeld ?_
      rotate_left
      · intro w' hSw
        (try dsimp only at hSw)
        go_simp
        try with_reducible rfl
      (try simp only [Act.put, List.setIfInBounds_toArray, List.set_cons_zero, List.set_cons_succ])
      refine takeH 4 (some 17) (v := ?_) rfl rfl (by kernel_rfl) (by kernel_rfl) (by kernel_rfl) (fun _ _ _ h => h) (Or.inl ⟨by kernel_rfl, ?_⟩) hHeld ?_
      rotate_left
      · intro w' hSw
        (try dsimp only at hSw)
        go_simp
        try with_reducible rfl
      (try simp only [Act.put, List.setIfInBounds_toArray, List.set_cons_zero, List.set_cons_succ])
      refine takeH 5 (some 18) (v := ?_) rfl rfl (by kernel_rfl) (by kernel_rfl) (by kernel_rfl) (fun _ _ _ h => h) (Or.inl ⟨by kernel_rfl, ?_⟩) hHeld ?_
      rotate_left
      · intro w' hSw
        (try dsimp only at hSw)
        go_simp
        try with_reducible rfl
      (try simp only [Act.put, List.setIfInBounds_toArray, List.set_cons_zero, List.set_cons_succ])
      refine takeH 6 (some 19) (v := ?_) rfl rfl (by kernel_rfl) (by kernel_rfl) (by kernel_rfl) (fun _ _ _ h => h) (Or.inl ⟨by kernel_rfl, ?_⟩) hHeld ?_
      rotate_left
      · intro w' hSw
        (try dsimp only at hSw)
        go_simp
        try with_reducible rfl
      (try simp only [Act.put, List.setIfInBounds_toArray, List.set_cons_zero, List.set_cons_succ])
      refine callH 3 (some 16) (f := 16) (args := #[.slice a n c, .agg #[.int .i64 u, .int .i64 v], .bool true]) rfl rfl (by kernel_rfl) (by kernel_rfl) (by kernel_rfl) ?_
      refine (HN1.out (by trivial) _ (Below.refl _ _).drew).mono ?_; rintro e x1 ⟨rfl, hb1⟩
      have hHeld1 := HS.out _ hb1
      refine ⟨_, rfl, hHeld1, ?_⟩
      (try simp only [Act.put, List.setIfInBounds_toArray, List.set_cons_zero, List.set_cons_succ])
      refine callH 7 (some 20) (f := 17) (args := #[.slice a n c, .agg #[.int .i64 u, .int .i64 v], .int .i64 1]) rfl rfl (by kernel_rfl) (by kernel_rfl) (by kernel_rfl) ?_
      refine (HN2.out (by trivial) _ hb1).mono ?_; rintro e x2 ⟨rfl, hb2⟩
      have hHeld12 := HS.out _ hb2
      refine ⟨_, rfl, hHeld12, ?_⟩
      (try simp only [Act.put, List.setIfInBounds_toArray, List.set_cons_zero, List.set_cons_succ])
      refine takeH 8 (some 21) (v := ?_) rfl rfl (by kernel_rfl) (by kernel_rfl) (by kernel_rfl) (fun _ _ _ h => h) (Or.inl ⟨by kernel_rfl, ?_⟩) hHeld12 ?_
      rotate_left
      · intro w' hSw
        (try dsimp only at hSw)
        go_simp
        try with_reducible rfl
      (try simp only [Act.put, List.setIfInBounds_toArray, List.set_cons_zero, List.set_cons_succ])
      refine takeH 9 (some 22) (v := ?_) rfl rfl (by kernel_rfl) (by kernel_rfl) (by kernel_rfl) (fun _ _ _ h => h) (Or.inl ⟨by kernel_rfl, ?_⟩) hHeld12 ?_
      rotate_left
      · intro w' hSw
        (try dsimp only at hSw)
        go_simp
        try with_reducible rfl
      (try simp only [Act.put, List.setIfInBounds_toArray, List.set_cons_zero, List.set_cons_succ])
      refine takeH 10 (some 23) (v := ?_) rfl rfl (by kernel_rfl) (by kernel_rfl) (by kernel_rfl) (fun _ _ _ h => h) (Or.inl ⟨by kernel_rfl, ?_⟩) hHeld12 ?_
      rotate_left
      · intro w' hSw
        (try dsimp only at hSw)
        go_simp
        try with_reducible rfl
      (try simp only [Act.put, List.setIfInBounds_toArray, List.set_cons_zero, List.set_cons_succ])
      refine takeH 11 (some 24) (v := ?_) rfl rfl (by kernel_rfl) (by kernel_rfl) (by kernel_rfl) (fun _ _ _ h => h) (Or.inl ⟨by kernel_rfl, ?_⟩) hHeld12 ?_
      rotate_left
      · intro w' hSw
        (try dsimp only at hSw)
        go_simp
        try with_reducible rfl
      (try simp only [Act.put, List.setIfInBounds_toArray, List.set_cons_zero, List.set_cons_succ])
      refine takeH 12 (some 25) (v := ?_) rfl rfl (by kernel_rfl) (by kernel_rfl) (by kernel_rfl) (fun _ _ _ h => h) (Or.inl ⟨by kernel_rfl, ?_⟩) hHeld12 ?_
      rotate_left
      · intro w' hSw
        (try dsimp only at hSw)
        go_simp
        try with_reducible rfl
      (try simp only [Act.put, List.setIfInBounds_toArray, List.set_cons_zero, List.set_cons_succ])
      refine takeH 14 (some 27) (v := ?_) rfl rfl (by kernel_rfl) (by kernel_rfl) (by kernel_rfl) (fun _ _ _ h => h) (Or.inl ⟨by kernel_rfl, ?_⟩) hHeld12 ?_
      rotate_left
      · intro w' hSw
        (try dsimp only at hSw)
        go_simp
        try with_reducible rfl
      (try simp only [Act.put, List.setIfInBounds_toArray, List.set_cons_zero, List.set_cons_succ])
      refine takeH 15 (some 28) (v := ?_) rfl rfl (by kernel_rfl) (by kernel_rfl) (by kernel_rfl) (fun _ _ _ h => h) (Or.inl ⟨by kernel_rfl, ?_⟩) hHeld12 ?_
      rotate_left
      · intro w' hSw
        (try dsimp only at hSw)
        go_simp
        try with_reducible rfl
      (try simp only [Act.put, List.setIfInBounds_toArray, List.set_cons_zero, List.set_cons_succ])
      refine takeH 16 (some 29) (v := ?_) rfl rfl (by kernel_rfl) (by kernel_rfl) (by kernel_rfl) (fun _ _ _ h => h) (Or.inl ⟨by kernel_rfl, ?_⟩) hHeld12 ?_
      rotate_left
      · intro w' hSw
        (try dsimp only at hSw)
        go_simp
        try with_reducible rfl
      (try simp only [Act.put, List.setIfInBounds_toArray, List.set_cons_zero, List.set_cons_succ])
      refine callH 13 (some 26) (f := 18) (args := #[.slice a n c, .agg #[.int .i64 u, .int .i64 v], .bool true]) rfl rfl (by kernel_rfl) (by kernel_rfl) (by kernel_rfl) ?_
      refine (HP1.out (by trivial) _ hb2).mono ?_; rintro e x3 ⟨rfl, hb3⟩
      have hHeld123 := HS.out _ hb3
      refine ⟨_, rfl, hHeld123, ?_⟩
      (try simp only [Act.put, List.setIfInBounds_toArray, List.set_cons_zero, List.set_cons_succ])
      refine callH 17 (some 30) (f := 19) (args := #[.slice a n c, .agg #[.int .i64 u, .int .i64 v], .int .i64 1]) rfl rfl (by kernel_rfl) (by kernel_rfl) (by kernel_rfl) ?_
      refine (HP2.out (by trivial) _ hb3).mono ?_; rintro e x4 ⟨rfl, hb4⟩
      have hHeld1234 := HS.out _ hb4
      refine ⟨_, rfl, hHeld1234, ?_⟩
      (try simp only [Act.put, List.setIfInBounds_toArray, List.set_cons_zero, List.set_cons_succ])
      refine takeH 18 (some 31) (v := ?_) rfl rfl (by kernel_rfl) (by kernel_rfl) (by kernel_rfl) (fun _ _ _ h => h) (Or.inl ⟨by kernel_rfl, ?_⟩) hHeld1234 ?_
      rotate_left
      · intro w' hSw
        (try dsimp only at hSw)
        go_simp
        try with_reducible rfl
      (try simp only [Act.put, List.setIfInBounds_toArray, List.set_cons_zero, List.set_cons_succ])
      refine takeH 19 (some 32) (v := ?_) rfl rfl (by kernel_rfl) (by kernel_rfl) (by kernel_rfl) (fun _ _ _ h => h) (Or.inl ⟨by kernel_rfl, ?_⟩) hHeld1234 ?_
      rotate_left
      · intro w' hSw
        (try dsimp only at hSw)
        go_simp
        try with_reducible rfl
      (try simp only [Act.put, List.setIfInBounds_toArray, List.set_cons_zero, List.set_cons_succ])
      refine takeH 20 (some 33) (v := ?_) rfl rfl (by kernel_rfl) (by kernel_rfl) (by kernel_rfl) (fun _ _ _ h => h) (Or.inl ⟨by kernel_rfl, ?_⟩) hHeld1234 ?_
      rotate_left
      · intro w' hSw
        (try dsimp only at hSw)
        go_simp
        try with_reducible rfl
      (try simp only [Act.put, List.setIfInBounds_toArray, List.set_cons_zero, List.set_cons_succ])
      refine takeH 21 (some 34) (v := ?_) rfl rfl (by kernel_rfl) (by kernel_rfl) (by kernel_rfl) (fun _ _ _ h => h) (Or.inl ⟨by kernel_rfl, ?_⟩) hHeld1234 ?_
      rotate_left
      · intro w' hSw
        (try dsimp only at hSw)
        go_simp
        try with_reducible rfl
      (try simp only [Act.put, List.setIfInBounds_toArray, List.set_cons_zero, List.set_cons_succ])
      refine takeH 22 (some 35) (v := ?_) rfl rfl (by kernel_rfl) (by kernel_rfl) (by kernel_rfl) (fun _ _ _ h => h) (Or.inl ⟨by kernel_rfl, ?_⟩) hHeld1234 ?_
      rotate_left
      · intro w' hSw
        (try dsimp only at hSw)
        go_simp
        try with_reducible rfl
      (try simp only [Act.put, List.setIfInBounds_toArray, List.set_cons_zero, List.set_cons_succ])
      refine takeH 23 (some 36) (v := ?_) rfl rfl (by kernel_rfl) (by kernel_rfl) (by kernel_rfl) (fun _ _ _ h => h) (Or.inl ⟨by kernel_rfl, ?_⟩) hHeld1234 ?_
      rotate_left
      · intro w' hSw
        (try dsimp only at hSw)
        go_simp
        try with_reducible rfl
      (try simp only [Act.put, List.setIfInBounds_toArray, List.set_cons_zero, List.set_cons_succ])
      refine takeH 25 (some 38) (v := ?_) rfl rfl (by kernel_rfl) (by kernel_rfl) (by kernel_rfl) (fun _ _ _ h => h) (Or.inl ⟨by kernel_rfl, ?_⟩) hHeld1234 ?_
      rotate_left
      · intro w' hSw
        (try dsimp only at hSw)
        go_simp
        try with_reducible rfl
      (try simp only [Act.put, List.setIfInBounds_toArray, List.set_cons_zero, List.set_cons_succ])
      refine takeH 26 (some 39) (v := ?_) rfl rfl (by kernel_rfl) (by kernel_rfl) (by kernel_rfl) (fun _ _ _ h => h) (Or.inl ⟨by kernel_rfl, ?_⟩) hHeld1234 ?_
      rotate_left
      · intro w' hSw
        (try dsimp only at hSw)
        go_simp
        try with_reducible rfl
      (try simp only [Act.put, List.setIfInBounds_toArray, List.set_cons_zero, List.set_cons_succ])
      refine takeH 27 (some 40) (v := ?_) rfl rfl (by kernel_rfl) (by kernel_rfl) (by kernel_rfl) (fun _ _ _ h => h) (Or.inl ⟨by kernel_rfl, ?_⟩) hHeld1234 ?_
      rotate_left
      · intro w' hSw
        (try dsimp only at hSw)
        go_simp
        try with_reducible rfl
      (try simp only [Act.put, List.setIfInBounds_toArray, List.set_cons_zero, List.set_cons_succ])
      refine callH 24 (some 37) (f := 20) (args := #[.slice a n c, .agg #[.int .i64 u, .int .i64 v], .bool true]) rfl rfl (by kernel_rfl) (by kernel_rfl) (by kernel_rfl) ?_
      refine (HE1.out (by trivial) _ hb4).mono ?_; rintro e x5 ⟨rfl, hb5⟩
      have hHeld12345 := HS.out _ hb5
      refine ⟨_, rfl, hHeld12345, ?_⟩
      (try simp only [Act.put, List.setIfInBounds_toArray, List.set_cons_zero, List.set_cons_succ])
      refine callH 28 (some 41) (f := 17) (args := #[.slice a n c, .agg #[.int .i64 u, .int .i64 v], .int .i64 3]) rfl rfl (by kernel_rfl) (by kernel_rfl) (by kernel_rfl) ?_
      refine (HE2.out (by trivial) _ hb5).mono ?_; rintro e x6 ⟨rfl, hb6⟩
      have hHeld123456 := HS.out _ hb6
      refine ⟨_, rfl, hHeld123456, ?_⟩
      (try simp only [Act.put, List.setIfInBounds_toArray, List.set_cons_zero, List.set_cons_succ])
      refine takeH 29 (some 42) (v := ?_) rfl rfl (by kernel_rfl) (by kernel_rfl) (by kernel_rfl) (fun _ _ _ h => h) (Or.inl ⟨by kernel_rfl, ?_⟩) hHeld123456 ?_
      rotate_left
      · intro w' hSw
        (try dsimp only at hSw)
        go_simp
        try with_reducible rfl
      (try simp only [Act.put, List.setIfInBounds_toArray, List.set_cons_zero, List.set_cons_succ])
      refine takeH 30 (some 43) (v := ?_) rfl rfl (by kernel_rfl) (by kernel_rfl) (by kernel_rfl) (fun _ _ _ h => h) (Or.inl ⟨by kernel_rfl, ?_⟩) hHeld123456 ?_
      rotate_left
      · intro w' hSw
        (try dsimp only at hSw)
        go_simp
        try with_reducible rfl
      (try simp only [Act.put, List.setIfInBounds_toArray, List.set_cons_zero, List.set_cons_succ])
      refine takeH 31 (some 44) (v := ?_) rfl rfl (by kernel_rfl) (by kernel_rfl) (by kernel_rfl) (fun _ _ _ h => h) (Or.inl ⟨by kernel_rfl, ?_⟩) hHeld123456 ?_
      rotate_left
      · intro w' hSw
        (try dsimp only at hSw)
        go_simp
        try with_reducible rfl
      (try simp only [Act.put, List.setIfInBounds_toArray, List.set_cons_zero, List.set_cons_succ])
      refine callH 32 (some 45) (f := 15) (args := #[]) rfl rfl (by kernel_rfl) (by kernel_rfl) (by kernel_rfl) ?_
      refine (HAW.out _ hb6).mono ?_; rintro e x7 ⟨rfl, hb7⟩
      have hHeld1234567 := HS.out _ hb7
      refine ⟨_, rfl, hHeld1234567, ?_⟩
      (try simp only [Act.put, List.setIfInBounds_toArray, List.set_cons_zero, List.set_cons_succ])
      refine takeH 33 (some 46) (v := ?_) rfl rfl (by kernel_rfl) (by kernel_rfl) (by kernel_rfl) (fun _ _ _ h => h) (Or.inl ⟨by kernel_rfl, ?_⟩) hHeld1234567 ?_
      rotate_left
      · intro w' hSw
        (try dsimp only at hSw)
        go_simp
        try with_reducible rfl
      (try simp only [Act.put, List.setIfInBounds_toArray, List.set_cons_zero, List.set_cons_succ])
      refine takeH 34 (some 6) (v := ?_) rfl rfl (by kernel_rfl) (by kernel_rfl) (by kernel_rfl) (fun _ _ _ h => h) (Or.inl ⟨by kernel_rfl, ?_⟩) hHeld1234567 ?_
      rotate_left
      · intro w' hSw
        (try dsimp only at hSw)
        go_simp
        try with_reducible rfl
      (try simp only [Act.put, List.setIfInBounds_toArray, List.set_cons_zero, List.set_cons_succ])
      refine wpAnyH_done (by kernel_rfl) ?_ _
      go_wp2_with fail
      go_ret
      exact ⟨rfl, HB1.out.trans (hb7.mono HB1.out.size)⟩
    | false =>
      obtain rfl : 0 = k1 := hk1
      obtain rfl : 2 = k2 := hk2
      go_enter Try.func4, Try.ntmps4
      go_upto_region 1 with fail
      rw [HW1.out]
      go_wp2_with (go_at_call 10; refine (HSMQ.out).mono ?_; rintro e w2 ⟨rfl, hw2⟩; subst hw2)
      refine wp_region_held (S := fun w' => w'.cell? ⟨W.heap.size, 0, none⟩ = some (.int .i64 u) ∧ w'.cell? ⟨W.heap.size, 1, none⟩ = some (.int .i64 v)) (by kernel_rfl) ?_
      change wpAnyH _ _ _ _ _ _ _ _ (World.drew _)
      have hHeld : (fun w' => w'.cell? ⟨W.heap.size, 0, none⟩ = some (.int .i64 u) ∧ w'.cell? ⟨W.heap.size, 1, none⟩ = some (.int .i64 v)) (World.drew w1) := ⟨a0, a1⟩
      refine takeH 0 (some 13) (v := ?_) rfl rfl (by kernel_rfl) (by kernel_rfl) (by kernel_rfl) (fun _ _ _ h => h) (Or.inl ⟨by kernel_rfl, ?_⟩) hHeld ?_
      rotate_left
      · intro w' hSw
        (try dsimp only at hSw)
        go_simp
        try with_reducible rfl
      (try simp only [Act.put, List.setIfInBounds_toArray, List.set_cons_zero, List.set_cons_succ])
      refine takeH 1 (some 14) (v := ?_) rfl rfl (by kernel_rfl) (by kernel_rfl) (by kernel_rfl) (fun _ _ _ h => h) (Or.inl ⟨by kernel_rfl, ?_⟩) hHeld ?_
      rotate_left
      · intro w' hSw
        (try dsimp only at hSw)
        go_simp
        try with_reducible rfl
      (try simp only [Act.put, List.setIfInBounds_toArray, List.set_cons_zero, List.set_cons_succ])
      refine takeH 2 (some 15) (v := ?_) rfl rfl (by kernel_rfl) (by kernel_rfl) (by kernel_rfl) (fun _ _ _ h => h) (Or.inl ⟨by kernel_rfl, ?_⟩) hHeld ?_
      rotate_left
      · intro w' hSw
        (try dsimp only at hSw)
        go_simp
        try with_reducible rfl
      (try simp only [Act.put, List.setIfInBounds_toArray, List.set_cons_zero, List.set_cons_succ])
      refine takeH 4 (some 17) (v := ?_) rfl rfl (by kernel_rfl) (by kernel_rfl) (by kernel_rfl) (fun _ _ _ h => h) (Or.inl ⟨by kernel_rfl, ?_⟩) hHeld ?_
      rotate_left
      · intro w' hSw
        (try dsimp only at hSw)
        go_simp
        try with_reducible rfl
      (try simp only [Act.put, List.setIfInBounds_toArray, List.set_cons_zero, List.set_cons_succ])
      refine takeH 5 (some 18) (v := ?_) rfl rfl (by kernel_rfl) (by kernel_rfl) (by kernel_rfl) (fun _ _ _ h => h) (Or.inl ⟨by kernel_rfl, ?_⟩) hHeld ?_
      rotate_left
      · intro w' hSw
        (try dsimp only at hSw)
        go_simp
        try with_reducible rfl
      (try simp only [Act.put, List.setIfInBounds_toArray, List.set_cons_zero, List.set_cons_succ])
      refine takeH 6 (some 19) (v := ?_) rfl rfl (by kernel_rfl) (by kernel_rfl) (by kernel_rfl) (fun _ _ _ h => h) (Or.inl ⟨by kernel_rfl, ?_⟩) hHeld ?_
      rotate_left
      · intro w' hSw
        (try dsimp only at hSw)
        go_simp
        try with_reducible rfl
      (try simp only [Act.put, List.setIfInBounds_toArray, List.set_cons_zero, List.set_cons_succ])
      refine callH 3 (some 16) (f := 16) (args := #[.slice a n c, .agg #[.int .i64 u, .int .i64 v], .bool false]) rfl rfl (by kernel_rfl) (by kernel_rfl) (by kernel_rfl) ?_
      refine (HN1.out (by trivial) _ (Below.refl _ _).drew).mono ?_; rintro e x1 ⟨rfl, hb1⟩
      have hHeld1 := HS.out _ hb1
      refine ⟨_, rfl, hHeld1, ?_⟩
      (try simp only [Act.put, List.setIfInBounds_toArray, List.set_cons_zero, List.set_cons_succ])
      refine callH 7 (some 20) (f := 17) (args := #[.slice a n c, .agg #[.int .i64 u, .int .i64 v], .int .i64 0]) rfl rfl (by kernel_rfl) (by kernel_rfl) (by kernel_rfl) ?_
      refine (HN2.out (by trivial) _ hb1).mono ?_; rintro e x2 ⟨rfl, hb2⟩
      have hHeld12 := HS.out _ hb2
      refine ⟨_, rfl, hHeld12, ?_⟩
      (try simp only [Act.put, List.setIfInBounds_toArray, List.set_cons_zero, List.set_cons_succ])
      refine takeH 8 (some 21) (v := ?_) rfl rfl (by kernel_rfl) (by kernel_rfl) (by kernel_rfl) (fun _ _ _ h => h) (Or.inl ⟨by kernel_rfl, ?_⟩) hHeld12 ?_
      rotate_left
      · intro w' hSw
        (try dsimp only at hSw)
        go_simp
        try with_reducible rfl
      (try simp only [Act.put, List.setIfInBounds_toArray, List.set_cons_zero, List.set_cons_succ])
      refine takeH 9 (some 22) (v := ?_) rfl rfl (by kernel_rfl) (by kernel_rfl) (by kernel_rfl) (fun _ _ _ h => h) (Or.inl ⟨by kernel_rfl, ?_⟩) hHeld12 ?_
      rotate_left
      · intro w' hSw
        (try dsimp only at hSw)
        go_simp
        try with_reducible rfl
      (try simp only [Act.put, List.setIfInBounds_toArray, List.set_cons_zero, List.set_cons_succ])
      refine takeH 10 (some 23) (v := ?_) rfl rfl (by kernel_rfl) (by kernel_rfl) (by kernel_rfl) (fun _ _ _ h => h) (Or.inl ⟨by kernel_rfl, ?_⟩) hHeld12 ?_
      rotate_left
      · intro w' hSw
        (try dsimp only at hSw)
        go_simp
        try with_reducible rfl
      (try simp only [Act.put, List.setIfInBounds_toArray, List.set_cons_zero, List.set_cons_succ])
      refine takeH 11 (some 24) (v := ?_) rfl rfl (by kernel_rfl) (by kernel_rfl) (by kernel_rfl) (fun _ _ _ h => h) (Or.inl ⟨by kernel_rfl, ?_⟩) hHeld12 ?_
      rotate_left
      · intro w' hSw
        (try dsimp only at hSw)
        go_simp
        try with_reducible rfl
      (try simp only [Act.put, List.setIfInBounds_toArray, List.set_cons_zero, List.set_cons_succ])
      refine takeH 12 (some 25) (v := ?_) rfl rfl (by kernel_rfl) (by kernel_rfl) (by kernel_rfl) (fun _ _ _ h => h) (Or.inl ⟨by kernel_rfl, ?_⟩) hHeld12 ?_
      rotate_left
      · intro w' hSw
        (try dsimp only at hSw)
        go_simp
        try with_reducible rfl
      (try simp only [Act.put, List.setIfInBounds_toArray, List.set_cons_zero, List.set_cons_succ])
      refine takeH 14 (some 27) (v := ?_) rfl rfl (by kernel_rfl) (by kernel_rfl) (by kernel_rfl) (fun _ _ _ h => h) (Or.inl ⟨by kernel_rfl, ?_⟩) hHeld12 ?_
      rotate_left
      · intro w' hSw
        (try dsimp only at hSw)
        go_simp
        try with_reducible rfl
      (try simp only [Act.put, List.setIfInBounds_toArray, List.set_cons_zero, List.set_cons_succ])
      refine takeH 15 (some 28) (v := ?_) rfl rfl (by kernel_rfl) (by kernel_rfl) (by kernel_rfl) (fun _ _ _ h => h) (Or.inl ⟨by kernel_rfl, ?_⟩) hHeld12 ?_
      rotate_left
      · intro w' hSw
        (try dsimp only at hSw)
        go_simp
        try with_reducible rfl
      (try simp only [Act.put, List.setIfInBounds_toArray, List.set_cons_zero, List.set_cons_succ])
      refine takeH 16 (some 29) (v := ?_) rfl rfl (by kernel_rfl) (by kernel_rfl) (by kernel_rfl) (fun _ _ _ h => h) (Or.inl ⟨by kernel_rfl, ?_⟩) hHeld12 ?_
      rotate_left
      · intro w' hSw
        (try dsimp only at hSw)
        go_simp
        try with_reducible rfl
      (try simp only [Act.put, List.setIfInBounds_toArray, List.set_cons_zero, List.set_cons_succ])
      refine callH 13 (some 26) (f := 18) (args := #[.slice a n c, .agg #[.int .i64 u, .int .i64 v], .bool false]) rfl rfl (by kernel_rfl) (by kernel_rfl) (by kernel_rfl) ?_
      refine (HP1.out (by trivial) _ hb2).mono ?_; rintro e x3 ⟨rfl, hb3⟩
      have hHeld123 := HS.out _ hb3
      refine ⟨_, rfl, hHeld123, ?_⟩
      (try simp only [Act.put, List.setIfInBounds_toArray, List.set_cons_zero, List.set_cons_succ])
      refine callH 17 (some 30) (f := 19) (args := #[.slice a n c, .agg #[.int .i64 u, .int .i64 v], .int .i64 0]) rfl rfl (by kernel_rfl) (by kernel_rfl) (by kernel_rfl) ?_
      refine (HP2.out (by trivial) _ hb3).mono ?_; rintro e x4 ⟨rfl, hb4⟩
      have hHeld1234 := HS.out _ hb4
      refine ⟨_, rfl, hHeld1234, ?_⟩
      (try simp only [Act.put, List.setIfInBounds_toArray, List.set_cons_zero, List.set_cons_succ])
      refine takeH 18 (some 31) (v := ?_) rfl rfl (by kernel_rfl) (by kernel_rfl) (by kernel_rfl) (fun _ _ _ h => h) (Or.inl ⟨by kernel_rfl, ?_⟩) hHeld1234 ?_
      rotate_left
      · intro w' hSw
        (try dsimp only at hSw)
        go_simp
        try with_reducible rfl
      (try simp only [Act.put, List.setIfInBounds_toArray, List.set_cons_zero, List.set_cons_succ])
      refine takeH 19 (some 32) (v := ?_) rfl rfl (by kernel_rfl) (by kernel_rfl) (by kernel_rfl) (fun _ _ _ h => h) (Or.inl ⟨by kernel_rfl, ?_⟩) hHeld1234 ?_
      rotate_left
      · intro w' hSw
        (try dsimp only at hSw)
        go_simp
        try with_reducible rfl
      (try simp only [Act.put, List.setIfInBounds_toArray, List.set_cons_zero, List.set_cons_succ])
      refine takeH 20 (some 33) (v := ?_) rfl rfl (by kernel_rfl) (by kernel_rfl) (by kernel_rfl) (fun _ _ _ h => h) (Or.inl ⟨by kernel_rfl, ?_⟩) hHeld1234 ?_
      rotate_left
      · intro w' hSw
        (try dsimp only at hSw)
        go_simp
        try with_reducible rfl
      (try simp only [Act.put, List.setIfInBounds_toArray, List.set_cons_zero, List.set_cons_succ])
      refine takeH 21 (some 34) (v := ?_) rfl rfl (by kernel_rfl) (by kernel_rfl) (by kernel_rfl) (fun _ _ _ h => h) (Or.inl ⟨by kernel_rfl, ?_⟩) hHeld1234 ?_
      rotate_left
      · intro w' hSw
        (try dsimp only at hSw)
        go_simp
        try with_reducible rfl
      (try simp only [Act.put, List.setIfInBounds_toArray, List.set_cons_zero, List.set_cons_succ])
      refine takeH 22 (some 35) (v := ?_) rfl rfl (by kernel_rfl) (by kernel_rfl) (by kernel_rfl) (fun _ _ _ h => h) (Or.inl ⟨by kernel_rfl, ?_⟩) hHeld1234 ?_
      rotate_left
      · intro w' hSw
        (try dsimp only at hSw)
        go_simp
        try with_reducible rfl
      (try simp only [Act.put, List.setIfInBounds_toArray, List.set_cons_zero, List.set_cons_succ])
      refine takeH 23 (some 36) (v := ?_) rfl rfl (by kernel_rfl) (by kernel_rfl) (by kernel_rfl) (fun _ _ _ h => h) (Or.inl ⟨by kernel_rfl, ?_⟩) hHeld1234 ?_
      rotate_left
      · intro w' hSw
        (try dsimp only at hSw)
        go_simp
        try with_reducible rfl
      (try simp only [Act.put, List.setIfInBounds_toArray, List.set_cons_zero, List.set_cons_succ])
      refine takeH 25 (some 38) (v := ?_) rfl rfl (by kernel_rfl) (by kernel_rfl) (by kernel_rfl) (fun _ _ _ h => h) (Or.inl ⟨by kernel_rfl, ?_⟩) hHeld1234 ?_
      rotate_left
      · intro w' hSw
        (try dsimp only at hSw)
        go_simp
        try with_reducible rfl
      (try simp only [Act.put, List.setIfInBounds_toArray, List.set_cons_zero, List.set_cons_succ])
      refine takeH 26 (some 39) (v := ?_) rfl rfl (by kernel_rfl) (by kernel_rfl) (by kernel_rfl) (fun _ _ _ h => h) (Or.inl ⟨by kernel_rfl, ?_⟩) hHeld1234 ?_
      rotate_left
      · intro w' hSw
        (try dsimp only at hSw)
        go_simp
        try with_reducible rfl
      (try simp only [Act.put, List.setIfInBounds_toArray, List.set_cons_zero, List.set_cons_succ])
      refine takeH 27 (some 40) (v := ?_) rfl rfl (by kernel_rfl) (by kernel_rfl) (by kernel_rfl) (fun _ _ _ h => h) (Or.inl ⟨by kernel_rfl, ?_⟩) hHeld1234 ?_
      rotate_left
      · intro w' hSw
        (try dsimp only at hSw)
        go_simp
        try with_reducible rfl
      (try simp only [Act.put, List.setIfInBounds_toArray, List.set_cons_zero, List.set_cons_succ])
      refine callH 24 (some 37) (f := 20) (args := #[.slice a n c, .agg #[.int .i64 u, .int .i64 v], .bool false]) rfl rfl (by kernel_rfl) (by kernel_rfl) (by kernel_rfl) ?_
      refine (HE1.out (by trivial) _ hb4).mono ?_; rintro e x5 ⟨rfl, hb5⟩
      have hHeld12345 := HS.out _ hb5
      refine ⟨_, rfl, hHeld12345, ?_⟩
      (try simp only [Act.put, List.setIfInBounds_toArray, List.set_cons_zero, List.set_cons_succ])
      refine callH 28 (some 41) (f := 17) (args := #[.slice a n c, .agg #[.int .i64 u, .int .i64 v], .int .i64 2]) rfl rfl (by kernel_rfl) (by kernel_rfl) (by kernel_rfl) ?_
      refine (HE2.out (by trivial) _ hb5).mono ?_; rintro e x6 ⟨rfl, hb6⟩
      have hHeld123456 := HS.out _ hb6
      refine ⟨_, rfl, hHeld123456, ?_⟩
      (try simp only [Act.put, List.setIfInBounds_toArray, List.set_cons_zero, List.set_cons_succ])
      refine takeH 29 (some 42) (v := ?_) rfl rfl (by kernel_rfl) (by kernel_rfl) (by kernel_rfl) (fun _ _ _ h => h) (Or.inl ⟨by kernel_rfl, ?_⟩) hHeld123456 ?_
      rotate_left
      · intro w' hSw
        (try dsimp only at hSw)
        go_simp
        try with_reducible rfl
      (try simp only [Act.put, List.setIfInBounds_toArray, List.set_cons_zero, List.set_cons_succ])
      refine takeH 30 (some 43) (v := ?_) rfl rfl (by kernel_rfl) (by kernel_rfl) (by kernel_rfl) (fun _ _ _ h => h) (Or.inl ⟨by kernel_rfl, ?_⟩) hHeld123456 ?_
      rotate_left
      · intro w' hSw
        (try dsimp only at hSw)
        go_simp
        try with_reducible rfl
      (try simp only [Act.put, List.setIfInBounds_toArray, List.set_cons_zero, List.set_cons_succ])
      refine takeH 31 (some 44) (v := ?_) rfl rfl (by kernel_rfl) (by kernel_rfl) (by kernel_rfl) (fun _ _ _ h => h) (Or.inl ⟨by kernel_rfl, ?_⟩) hHeld123456 ?_
      rotate_left
      · intro w' hSw
        (try dsimp only at hSw)
        go_simp
        try with_reducible rfl
      (try simp only [Act.put, List.setIfInBounds_toArray, List.set_cons_zero, List.set_cons_succ])
      refine callH 32 (some 45) (f := 15) (args := #[]) rfl rfl (by kernel_rfl) (by kernel_rfl) (by kernel_rfl) ?_
      refine (HAW.out _ hb6).mono ?_; rintro e x7 ⟨rfl, hb7⟩
      have hHeld1234567 := HS.out _ hb7
      refine ⟨_, rfl, hHeld1234567, ?_⟩
      (try simp only [Act.put, List.setIfInBounds_toArray, List.set_cons_zero, List.set_cons_succ])
      refine takeH 33 (some 46) (v := ?_) rfl rfl (by kernel_rfl) (by kernel_rfl) (by kernel_rfl) (fun _ _ _ h => h) (Or.inl ⟨by kernel_rfl, ?_⟩) hHeld1234567 ?_
      rotate_left
      · intro w' hSw
        (try dsimp only at hSw)
        go_simp
        try with_reducible rfl
      (try simp only [Act.put, List.setIfInBounds_toArray, List.set_cons_zero, List.set_cons_succ])
      refine takeH 34 (some 6) (v := ?_) rfl rfl (by kernel_rfl) (by kernel_rfl) (by kernel_rfl) (fun _ _ _ h => h) (Or.inl ⟨by kernel_rfl, ?_⟩) hHeld1234567 ?_
      rotate_left
      · intro w' hSw
        (try dsimp only at hSw)
        go_simp
        try with_reducible rfl
      (try simp only [Act.put, List.setIfInBounds_toArray, List.set_cons_zero, List.set_cons_succ])
      refine wpAnyH_done (by kernel_rfl) ?_ _
      go_wp2_with fail
      go_ret
      exact ⟨rfl, HB1.out.trans (hb7.mono HB1.out.size)⟩
end Go.Proofs.Ytnegijbdgefaoaa.U
