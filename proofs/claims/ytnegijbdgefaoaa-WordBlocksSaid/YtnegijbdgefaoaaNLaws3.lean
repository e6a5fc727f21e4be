/-
  The walk of WordBlocks. (MADE by wip/tools/gen_laws9.py.)
-/
import Derived.Test.YtnegijbdgefaoaaNAwake
import Derived.Test.YtnegijbdgefaoaaRHand
namespace Go.Proofs.Ytnegijbdgefaoaa.U
open Go.RowKit
set_option linter.unusedVariables false
set_option linter.unusedSimpArgs false
set_option maxRecDepth 100000


set_option maxHeartbeats 8000000 in
theorem wordBlocks_wide (a : Option Addr) (n c : Nat) (L : List (List Int)) (q : Po)  (W : World) (h : RdL (fun k => k < W.heap.size) W a n c L) (hq : i64p q)  (hw : WideL L) :
    Calls Try.prog 5 #[.slice a n c, q.v] W fun e w' => e = .returned (.bool true) ∧ Below W.heap.size W w' := by
  obtain ⟨u, v⟩ := q
  obtain ⟨w1, hw1⟩ : ∃ w1, W.alloc (.cells #[.int .i64 u, .int .i64 v] 24) = w1 := ⟨_, rfl⟩
  have hb1 : Below W.heap.size W w1 := by rw [← hw1]; exact bal _ _
  have g1 : w1.heap[W.heap.size]? = some (.cells #[.int .i64 u, .int .i64 v] 24 (0, 0)) := by rw [← hw1]; exact heap_alloc_new W _
  obtain ⟨a0, a1, -, -⟩ := row2 g1
  have HS : Hid (∀ w' : World, Below w1.heap.size w1 w' → (fun w' => w'.cell? ⟨W.heap.size, 0, none⟩ = some (.int .i64 u) ∧ w'.cell? ⟨W.heap.size, 1, none⟩ = some (.int .i64 v)) w') := fun w' hb => ⟨(hb.cell (p := ⟨W.heap.size, 0, none⟩) (heap_lt g1)).trans a0, (hb.cell (p := ⟨W.heap.size, 1, none⟩) (heap_lt g1)).trans a1⟩
  have hL : ∀ w' : World, Below w1.heap.size w1 w' → RdL (fun k => k < W.heap.size) w' a n c L := fun w' hb => h.below (hb1.trans (hb.mono hb1.size))
  have hsz : smallL L = true → sizeN (lens L) ≤ 262144 := smallL_wide
  have HSM : Hid (∀ w' : World, Below w1.heap.size w1 w' → Calls Try.prog 10 #[.slice a n c] w' fun e w2 => e = .returned (.bool (smallL L)) ∧ Below w1.heap.size w1 w2) := fun w' hb => upC hb (eqC (small_wide _ a n c L w' (hL w' hb) hw))
  have HAW : Hid (∀ w' : World, Below w1.heap.size w1 w' → Calls Try.prog 15 #[] w' fun e w2 => e = .returned (.bool true) ∧ Below w1.heap.size w1 w2) := fun w' hb => upC hb (awake_any w')
  obtain ⟨⟨pi, pj⟩, hp⟩ : ∃ p, behindP L 4 (clipP L u v) = p := ⟨_, rfl⟩
  obtain ⟨⟨v_i, v_j⟩, hv_⟩ : ∃ p, beforeP L 5 (clipP L u v) = p := ⟨_, rfl⟩
  obtain ⟨⟨yi, yj⟩, hy⟩ : ∃ p, behindP L 6 (clipP L u v) = p := ⟨_, rfl⟩
  obtain ⟨⟨zi, zj⟩, hz⟩ : ∃ p, beforeP L 6 (clipP L u v) = p := ⟨_, rfl⟩
  have HSMQ : Hid (Calls Try.prog 10 #[.slice a n c] w1 fun e w2 => e = .returned (.bool (smallL L)) ∧ w1 = w2) := small_wide _ a n c L w1 (hL w1 (Below.refl _ _)) hw
  have HN1 : Hid (smallL L = true → ∀ w' : World, Below w1.heap.size w1 w' → Calls Try.prog 21 #[.slice a n c, .agg #[.int .i64 u, .int .i64 v]] w' fun e w2 => e = .returned (.agg #[.int .i64 (pi : Nat), .int .i64 (pj : Nat)]) ∧ Below w1.heap.size w1 w2) := fun hs w' hb => upC hb ((by have := wparan_any _ a n c L ⟨u, v⟩ w' (hL w' hb) hq (hsz hs); rw [hp] at this; exact this))
  have HN2 : Hid (smallL L = true → ∀ w' : World, Below w1.heap.size w1 w' → Calls Try.prog 17 #[.slice a n c, .agg #[.int .i64 u, .int .i64 v], .int .i64 4] w' fun e w2 => e = .returned (.agg #[.int .i64 (pi : Nat), .int .i64 (pj : Nat)]) ∧ Below w1.heap.size w1 w2) := fun hs w' hb => upC hb ((by have := rbehind_any _ a n c L ⟨u, v⟩ 4 w' (hL w' hb) hq (hsz hs) (by decide) (by decide); rw [hp] at this; exact this))
  have HP1 : Hid (smallL L = true → ∀ w' : World, Below w1.heap.size w1 w' → Calls Try.prog 22 #[.slice a n c, .agg #[.int .i64 u, .int .i64 v]] w' fun e w2 => e = .returned (.agg #[.int .i64 (v_i : Nat), .int .i64 (v_j : Nat)]) ∧ Below w1.heap.size w1 w2) := fun hs w' hb => upC hb ((by have := wparap_any _ a n c L ⟨u, v⟩ w' (hL w' hb) hq (hsz hs); rw [hv_] at this; exact this))
  have HP2 : Hid (smallL L = true → ∀ w' : World, Below w1.heap.size w1 w' → Calls Try.prog 19 #[.slice a n c, .agg #[.int .i64 u, .int .i64 v], .int .i64 5] w' fun e w2 => e = .returned (.agg #[.int .i64 (v_i : Nat), .int .i64 (v_j : Nat)]) ∧ Below w1.heap.size w1 w2) := fun hs w' hb => upC hb ((by have := rbefore_any _ a n c L ⟨u, v⟩ 5 w' (hL w' hb) hq (hsz hs) (by decide) (by decide); rw [hv_] at this; exact this))
  have HE1 : Hid (smallL L = true → ∀ w' : World, Below w1.heap.size w1 w' → Calls Try.prog 23 #[.slice a n c, .agg #[.int .i64 u, .int .i64 v]] w' fun e w2 => e = .returned (.agg #[.int .i64 (yi : Nat), .int .i64 (yj : Nat)]) ∧ Below w1.heap.size w1 w2) := fun hs w' hb => upC hb ((by have := wsentn_any _ a n c L ⟨u, v⟩ w' (hL w' hb) hq (hsz hs); rw [hy] at this; exact this))
  have HE2 : Hid (smallL L = true → ∀ w' : World, Below w1.heap.size w1 w' → Calls Try.prog 17 #[.slice a n c, .agg #[.int .i64 u, .int .i64 v], .int .i64 6] w' fun e w2 => e = .returned (.agg #[.int .i64 (yi : Nat), .int .i64 (yj : Nat)]) ∧ Below w1.heap.size w1 w2) := fun hs w' hb => upC hb ((by have := rbehind_any _ a n c L ⟨u, v⟩ 6 w' (hL w' hb) hq (hsz hs) (by decide) (by decide); rw [hy] at this; exact this))
  have HT1 : Hid (smallL L = true → ∀ w' : World, Below w1.heap.size w1 w' → Calls Try.prog 24 #[.slice a n c, .agg #[.int .i64 u, .int .i64 v]] w' fun e w2 => e = .returned (.agg #[.int .i64 (zi : Nat), .int .i64 (zj : Nat)]) ∧ Below w1.heap.size w1 w2) := fun hs w' hb => upC hb ((by have := wsentp_any _ a n c L ⟨u, v⟩ w' (hL w' hb) hq (hsz hs); rw [hz] at this; exact this))
  have HT2 : Hid (smallL L = true → ∀ w' : World, Below w1.heap.size w1 w' → Calls Try.prog 19 #[.slice a n c, .agg #[.int .i64 u, .int .i64 v], .int .i64 6] w' fun e w2 => e = .returned (.agg #[.int .i64 (zi : Nat), .int .i64 (zj : Nat)]) ∧ Below w1.heap.size w1 w2) := fun hs w' hb => upC hb ((by have := rbefore_any _ a n c L ⟨u, v⟩ 6 w' (hL w' hb) hq (hsz hs) (by decide) (by decide); rw [hz] at this; exact this))
  have HW1 := Lib.hid hw1
  have HB1 := Lib.hid hb1
  clear g1 hw1 hb1 h hL hsz
  obtain ⟨sm, hsm⟩ : ∃ sm, smallL L = sm := ⟨_, rfl⟩
  rw [hsm] at HSM HN1 HN2 HP1 HP2 HE1 HE2 HT1 HT2
  rw [hsm] at HSMQ
  clear hp hv_ hy hz
  show Calls Try.prog _ #[.slice a n c, .agg #[.int .i64 u, .int .i64 v]] W _
  cases sm with
  | false =>
    go_enter Try.func5, Try.ntmps5
    go_upto_region 1 with fail
    rw [HW1.out]
    go_wp2_with (go_at_call 10; refine (HSMQ.out).mono ?_; rintro e w2 ⟨rfl, hw2⟩; subst hw2)
    go_ret
    exact ⟨rfl, HB1.out⟩
  | true =>
    go_enter Try.func5, Try.ntmps5
    go_upto_region 1 with fail
    rw [HW1.out]
    go_wp2_with (go_at_call 10; refine (HSMQ.out).mono ?_; rintro e w2 ⟨rfl, hw2⟩; subst hw2)
    refine wp_region_held (S := fun w' => w'.cell? ⟨W.heap.size, 0, none⟩ = some (.int .i64 u) ∧ w'.cell? ⟨W.heap.size, 1, none⟩ = some (.int .i64 v)) (by kernel_rfl) ?_
    change wpAnyH _ _ _ _ _ _ _ _ (World.drew _)
    have hHeld : (fun w' => w'.cell? ⟨W.heap.size, 0, none⟩ = some (.int .i64 u) ∧ w'.cell? ⟨W.heap.size, 1, none⟩ = some (.int .i64 v)) (World.drew w1) := ⟨a0, a1⟩
    refine takeH 0 (some 8) (v := ?_) rfl rfl (by kernel_rfl) (by kernel_rfl) (by kernel_rfl) (fun _ _ _ h => h) (Or.inl ⟨by kernel_rfl, ?_⟩) hHeld ?_
    rotate_left
    · intro w' hSw
      (try dsimp only at hSw)
      go_simp
      try with_reducible rfl
    (try simp only [Act.put, List.setIfInBounds_toArray, List.set_cons_zero, List.set_cons_succ])
    refine takeH 1 (some 9) (v := ?_) rfl rfl (by kernel_rfl) (by kernel_rfl) (by kernel_rfl) (fun _ _ _ h => h) (Or.inl ⟨by kernel_rfl, ?_⟩) hHeld ?_
    rotate_left
    · intro w' hSw
      (try dsimp only at hSw)
      go_simp
      try with_reducible rfl
    (try simp only [Act.put, List.setIfInBounds_toArray, List.set_cons_zero, List.set_cons_succ])
    refine takeH 3 (some 11) (v := ?_) rfl rfl (by kernel_rfl) (by kernel_rfl) (by kernel_rfl) (fun _ _ _ h => h) (Or.inl ⟨by kernel_rfl, ?_⟩) hHeld ?_
    rotate_left
    · intro w' hSw
      (try dsimp only at hSw)
      go_simp
      try with_reducible rfl
    (try simp only [Act.put, List.setIfInBounds_toArray, List.set_cons_zero, List.set_cons_succ])
    refine takeH 4 (some 12) (v := ?_) rfl rfl (by kernel_rfl) (by kernel_rfl) (by kernel_rfl) (fun _ _ _ h => h) (Or.inl ⟨by kernel_rfl, ?_⟩) hHeld ?_
    rotate_left
    · intro w' hSw
      (try dsimp only at hSw)
      go_simp
      try with_reducible rfl
    (try simp only [Act.put, List.setIfInBounds_toArray, List.set_cons_zero, List.set_cons_succ])
    refine callH 2 (some 10) (f := 21) (args := #[.slice a n c, .agg #[.int .i64 u, .int .i64 v]]) rfl rfl (by kernel_rfl) (by kernel_rfl) (by kernel_rfl) ?_
    refine (HN1.out (by trivial) _ (Below.refl _ _).drew).mono ?_; rintro e x1 ⟨rfl, hb1⟩
    have hHeld1 := HS.out _ hb1
    refine ⟨_, rfl, hHeld1, ?_⟩
    (try simp only [Act.put, List.setIfInBounds_toArray, List.set_cons_zero, List.set_cons_succ])
    refine callH 5 (some 13) (f := 17) (args := #[.slice a n c, .agg #[.int .i64 u, .int .i64 v], .int .i64 4]) rfl rfl (by kernel_rfl) (by kernel_rfl) (by kernel_rfl) ?_
    refine (HN2.out (by trivial) _ hb1).mono ?_; rintro e x2 ⟨rfl, hb2⟩
    have hHeld12 := HS.out _ hb2
    refine ⟨_, rfl, hHeld12, ?_⟩
    (try simp only [Act.put, List.setIfInBounds_toArray, List.set_cons_zero, List.set_cons_succ])
    refine takeH 6 (some 14) (v := ?_) rfl rfl (by kernel_rfl) (by kernel_rfl) (by kernel_rfl) (fun _ _ _ h => h) (Or.inl ⟨by kernel_rfl, ?_⟩) hHeld12 ?_
    rotate_left
    · intro w' hSw
      (try dsimp only at hSw)
      go_simp
      try with_reducible rfl
    (try simp only [Act.put, List.setIfInBounds_toArray, List.set_cons_zero, List.set_cons_succ])
    refine takeH 7 (some 15) (v := ?_) rfl rfl (by kernel_rfl) (by kernel_rfl) (by kernel_rfl) (fun _ _ _ h => h) (Or.inl ⟨by kernel_rfl, ?_⟩) hHeld12 ?_
    rotate_left
    · intro w' hSw
      (try dsimp only at hSw)
      go_simp
      try with_reducible rfl
    (try simp only [Act.put, List.setIfInBounds_toArray, List.set_cons_zero, List.set_cons_succ])
    refine takeH 8 (some 16) (v := ?_) rfl rfl (by kernel_rfl) (by kernel_rfl) (by kernel_rfl) (fun _ _ _ h => h) (Or.inl ⟨by kernel_rfl, ?_⟩) hHeld12 ?_
    rotate_left
    · intro w' hSw
      (try dsimp only at hSw)
      go_simp
      try with_reducible rfl
    (try simp only [Act.put, List.setIfInBounds_toArray, List.set_cons_zero, List.set_cons_succ])
    refine takeH 9 (some 17) (v := ?_) rfl rfl (by kernel_rfl) (by kernel_rfl) (by kernel_rfl) (fun _ _ _ h => h) (Or.inl ⟨by kernel_rfl, ?_⟩) hHeld12 ?_
    rotate_left
    · intro w' hSw
      (try dsimp only at hSw)
      go_simp
      try with_reducible rfl
    (try simp only [Act.put, List.setIfInBounds_toArray, List.set_cons_zero, List.set_cons_succ])
    refine takeH 11 (some 19) (v := ?_) rfl rfl (by kernel_rfl) (by kernel_rfl) (by kernel_rfl) (fun _ _ _ h => h) (Or.inl ⟨by kernel_rfl, ?_⟩) hHeld12 ?_
    rotate_left
    · intro w' hSw
      (try dsimp only at hSw)
      go_simp
      try with_reducible rfl
    (try simp only [Act.put, List.setIfInBounds_toArray, List.set_cons_zero, List.set_cons_succ])
    refine takeH 12 (some 20) (v := ?_) rfl rfl (by kernel_rfl) (by kernel_rfl) (by kernel_rfl) (fun _ _ _ h => h) (Or.inl ⟨by kernel_rfl, ?_⟩) hHeld12 ?_
    rotate_left
    · intro w' hSw
      (try dsimp only at hSw)
      go_simp
      try with_reducible rfl
    (try simp only [Act.put, List.setIfInBounds_toArray, List.set_cons_zero, List.set_cons_succ])
    refine callH 10 (some 18) (f := 22) (args := #[.slice a n c, .agg #[.int .i64 u, .int .i64 v]]) rfl rfl (by kernel_rfl) (by kernel_rfl) (by kernel_rfl) ?_
    refine (HP1.out (by trivial) _ hb2).mono ?_; rintro e x3 ⟨rfl, hb3⟩
    have hHeld123 := HS.out _ hb3
    refine ⟨_, rfl, hHeld123, ?_⟩
    (try simp only [Act.put, List.setIfInBounds_toArray, List.set_cons_zero, List.set_cons_succ])
    refine callH 13 (some 21) (f := 19) (args := #[.slice a n c, .agg #[.int .i64 u, .int .i64 v], .int .i64 5]) rfl rfl (by kernel_rfl) (by kernel_rfl) (by kernel_rfl) ?_
    refine (HP2.out (by trivial) _ hb3).mono ?_; rintro e x4 ⟨rfl, hb4⟩
    have hHeld1234 := HS.out _ hb4
    refine ⟨_, rfl, hHeld1234, ?_⟩
    (try simp only [Act.put, List.setIfInBounds_toArray, List.set_cons_zero, List.set_cons_succ])
    refine takeH 14 (some 22) (v := ?_) rfl rfl (by kernel_rfl) (by kernel_rfl) (by kernel_rfl) (fun _ _ _ h => h) (Or.inl ⟨by kernel_rfl, ?_⟩) hHeld1234 ?_
    rotate_left
    · intro w' hSw
      (try dsimp only at hSw)
      go_simp
      try with_reducible rfl
    (try simp only [Act.put, List.setIfInBounds_toArray, List.set_cons_zero, List.set_cons_succ])
    refine takeH 15 (some 23) (v := ?_) rfl rfl (by kernel_rfl) (by kernel_rfl) (by kernel_rfl) (fun _ _ _ h => h) (Or.inl ⟨by kernel_rfl, ?_⟩) hHeld1234 ?_
    rotate_left
    · intro w' hSw
      (try dsimp only at hSw)
      go_simp
      try with_reducible rfl
    (try simp only [Act.put, List.setIfInBounds_toArray, List.set_cons_zero, List.set_cons_succ])
    refine takeH 16 (some 24) (v := ?_) rfl rfl (by kernel_rfl) (by kernel_rfl) (by kernel_rfl) (fun _ _ _ h => h) (Or.inl ⟨by kernel_rfl, ?_⟩) hHeld1234 ?_
    rotate_left
    · intro w' hSw
      (try dsimp only at hSw)
      go_simp
      try with_reducible rfl
    (try simp only [Act.put, List.setIfInBounds_toArray, List.set_cons_zero, List.set_cons_succ])
    refine takeH 17 (some 25) (v := ?_) rfl rfl (by kernel_rfl) (by kernel_rfl) (by kernel_rfl) (fun _ _ _ h => h) (Or.inl ⟨by kernel_rfl, ?_⟩) hHeld1234 ?_
    rotate_left
    · intro w' hSw
      (try dsimp only at hSw)
      go_simp
      try with_reducible rfl
    (try simp only [Act.put, List.setIfInBounds_toArray, List.set_cons_zero, List.set_cons_succ])
    refine takeH 18 (some 26) (v := ?_) rfl rfl (by kernel_rfl) (by kernel_rfl) (by kernel_rfl) (fun _ _ _ h => h) (Or.inl ⟨by kernel_rfl, ?_⟩) hHeld1234 ?_
    rotate_left
    · intro w' hSw
      (try dsimp only at hSw)
      go_simp
      try with_reducible rfl
    (try simp only [Act.put, List.setIfInBounds_toArray, List.set_cons_zero, List.set_cons_succ])
    refine takeH 20 (some 28) (v := ?_) rfl rfl (by kernel_rfl) (by kernel_rfl) (by kernel_rfl) (fun _ _ _ h => h) (Or.inl ⟨by kernel_rfl, ?_⟩) hHeld1234 ?_
    rotate_left
    · intro w' hSw
      (try dsimp only at hSw)
      go_simp
      try with_reducible rfl
    (try simp only [Act.put, List.setIfInBounds_toArray, List.set_cons_zero, List.set_cons_succ])
    refine takeH 21 (some 29) (v := ?_) rfl rfl (by kernel_rfl) (by kernel_rfl) (by kernel_rfl) (fun _ _ _ h => h) (Or.inl ⟨by kernel_rfl, ?_⟩) hHeld1234 ?_
    rotate_left
    · intro w' hSw
      (try dsimp only at hSw)
      go_simp
      try with_reducible rfl
    (try simp only [Act.put, List.setIfInBounds_toArray, List.set_cons_zero, List.set_cons_succ])
    refine callH 19 (some 27) (f := 23) (args := #[.slice a n c, .agg #[.int .i64 u, .int .i64 v]]) rfl rfl (by kernel_rfl) (by kernel_rfl) (by kernel_rfl) ?_
    refine (HE1.out (by trivial) _ hb4).mono ?_; rintro e x5 ⟨rfl, hb5⟩
    have hHeld12345 := HS.out _ hb5
    refine ⟨_, rfl, hHeld12345, ?_⟩
    (try simp only [Act.put, List.setIfInBounds_toArray, List.set_cons_zero, List.set_cons_succ])
    refine callH 22 (some 30) (f := 17) (args := #[.slice a n c, .agg #[.int .i64 u, .int .i64 v], .int .i64 6]) rfl rfl (by kernel_rfl) (by kernel_rfl) (by kernel_rfl) ?_
    refine (HE2.out (by trivial) _ hb5).mono ?_; rintro e x6 ⟨rfl, hb6⟩
    have hHeld123456 := HS.out _ hb6
    refine ⟨_, rfl, hHeld123456, ?_⟩
    (try simp only [Act.put, List.setIfInBounds_toArray, List.set_cons_zero, List.set_cons_succ])
    refine takeH 23 (some 31) (v := ?_) rfl rfl (by kernel_rfl) (by kernel_rfl) (by kernel_rfl) (fun _ _ _ h => h) (Or.inl ⟨by kernel_rfl, ?_⟩) hHeld123456 ?_
    rotate_left
    · intro w' hSw
      (try dsimp only at hSw)
      go_simp
      try with_reducible rfl
    (try simp only [Act.put, List.setIfInBounds_toArray, List.set_cons_zero, List.set_cons_succ])
    refine takeH 24 (some 32) (v := ?_) rfl rfl (by kernel_rfl) (by kernel_rfl) (by kernel_rfl) (fun _ _ _ h => h) (Or.inl ⟨by kernel_rfl, ?_⟩) hHeld123456 ?_
    rotate_left
    · intro w' hSw
      (try dsimp only at hSw)
      go_simp
      try with_reducible rfl
    (try simp only [Act.put, List.setIfInBounds_toArray, List.set_cons_zero, List.set_cons_succ])
    refine takeH 25 (some 33) (v := ?_) rfl rfl (by kernel_rfl) (by kernel_rfl) (by kernel_rfl) (fun _ _ _ h => h) (Or.inl ⟨by kernel_rfl, ?_⟩) hHeld123456 ?_
    rotate_left
    · intro w' hSw
      (try dsimp only at hSw)
      go_simp
      try with_reducible rfl
    (try simp only [Act.put, List.setIfInBounds_toArray, List.set_cons_zero, List.set_cons_succ])
    refine takeH 26 (some 34) (v := ?_) rfl rfl (by kernel_rfl) (by kernel_rfl) (by kernel_rfl) (fun _ _ _ h => h) (Or.inl ⟨by kernel_rfl, ?_⟩) hHeld123456 ?_
    rotate_left
    · intro w' hSw
      (try dsimp only at hSw)
      go_simp
      try with_reducible rfl
    (try simp only [Act.put, List.setIfInBounds_toArray, List.set_cons_zero, List.set_cons_succ])
    refine takeH 27 (some 35) (v := ?_) rfl rfl (by kernel_rfl) (by kernel_rfl) (by kernel_rfl) (fun _ _ _ h => h) (Or.inl ⟨by kernel_rfl, ?_⟩) hHeld123456 ?_
    rotate_left
    · intro w' hSw
      (try dsimp only at hSw)
      go_simp
      try with_reducible rfl
    (try simp only [Act.put, List.setIfInBounds_toArray, List.set_cons_zero, List.set_cons_succ])
    refine takeH 29 (some 37) (v := ?_) rfl rfl (by kernel_rfl) (by kernel_rfl) (by kernel_rfl) (fun _ _ _ h => h) (Or.inl ⟨by kernel_rfl, ?_⟩) hHeld123456 ?_
    rotate_left
    · intro w' hSw
      (try dsimp only at hSw)
      go_simp
      try with_reducible rfl
    (try simp only [Act.put, List.setIfInBounds_toArray, List.set_cons_zero, List.set_cons_succ])
    refine takeH 30 (some 38) (v := ?_) rfl rfl (by kernel_rfl) (by kernel_rfl) (by kernel_rfl) (fun _ _ _ h => h) (Or.inl ⟨by kernel_rfl, ?_⟩) hHeld123456 ?_
    rotate_left
    · intro w' hSw
      (try dsimp only at hSw)
      go_simp
      try with_reducible rfl
    (try simp only [Act.put, List.setIfInBounds_toArray, List.set_cons_zero, List.set_cons_succ])
    refine callH 28 (some 36) (f := 24) (args := #[.slice a n c, .agg #[.int .i64 u, .int .i64 v]]) rfl rfl (by kernel_rfl) (by kernel_rfl) (by kernel_rfl) ?_
    refine (HT1.out (by trivial) _ hb6).mono ?_; rintro e x7 ⟨rfl, hb7⟩
    have hHeld1234567 := HS.out _ hb7
    refine ⟨_, rfl, hHeld1234567, ?_⟩
    (try simp only [Act.put, List.setIfInBounds_toArray, List.set_cons_zero, List.set_cons_succ])
    refine callH 31 (some 39) (f := 19) (args := #[.slice a n c, .agg #[.int .i64 u, .int .i64 v], .int .i64 6]) rfl rfl (by kernel_rfl) (by kernel_rfl) (by kernel_rfl) ?_
    refine (HT2.out (by trivial) _ hb7).mono ?_; rintro e x8 ⟨rfl, hb8⟩
    have hHeld12345678 := HS.out _ hb8
    refine ⟨_, rfl, hHeld12345678, ?_⟩
    (try simp only [Act.put, List.setIfInBounds_toArray, List.set_cons_zero, List.set_cons_succ])
    refine takeH 32 (some 40) (v := ?_) rfl rfl (by kernel_rfl) (by kernel_rfl) (by kernel_rfl) (fun _ _ _ h => h) (Or.inl ⟨by kernel_rfl, ?_⟩) hHeld12345678 ?_
    rotate_left
    · intro w' hSw
      (try dsimp only at hSw)
      go_simp
      try with_reducible rfl
    (try simp only [Act.put, List.setIfInBounds_toArray, List.set_cons_zero, List.set_cons_succ])
    refine takeH 33 (some 41) (v := ?_) rfl rfl (by kernel_rfl) (by kernel_rfl) (by kernel_rfl) (fun _ _ _ h => h) (Or.inl ⟨by kernel_rfl, ?_⟩) hHeld12345678 ?_
    rotate_left
    · intro w' hSw
      (try dsimp only at hSw)
      go_simp
      try with_reducible rfl
    (try simp only [Act.put, List.setIfInBounds_toArray, List.set_cons_zero, List.set_cons_succ])
    refine takeH 34 (some 42) (v := ?_) rfl rfl (by kernel_rfl) (by kernel_rfl) (by kernel_rfl) (fun _ _ _ h => h) (Or.inl ⟨by kernel_rfl, ?_⟩) hHeld12345678 ?_
    rotate_left
    · intro w' hSw
      (try dsimp only at hSw)
      go_simp
      try with_reducible rfl
    (try simp only [Act.put, List.setIfInBounds_toArray, List.set_cons_zero, List.set_cons_succ])
    refine callH 35 (some 43) (f := 15) (args := #[]) rfl rfl (by kernel_rfl) (by kernel_rfl) (by kernel_rfl) ?_
    refine (HAW.out _ hb8).mono ?_; rintro e x9 ⟨rfl, hb9⟩
    have hHeld123456789 := HS.out _ hb9
    refine ⟨_, rfl, hHeld123456789, ?_⟩
    (try simp only [Act.put, List.setIfInBounds_toArray, List.set_cons_zero, List.set_cons_succ])
    refine takeH 36 (some 44) (v := ?_) rfl rfl (by kernel_rfl) (by kernel_rfl) (by kernel_rfl) (fun _ _ _ h => h) (Or.inl ⟨by kernel_rfl, ?_⟩) hHeld123456789 ?_
    rotate_left
    · intro w' hSw
      (try dsimp only at hSw)
      go_simp
      try with_reducible rfl
    (try simp only [Act.put, List.setIfInBounds_toArray, List.set_cons_zero, List.set_cons_succ])
    refine takeH 37 (some 4) (v := ?_) rfl rfl (by kernel_rfl) (by kernel_rfl) (by kernel_rfl) (fun _ _ _ h => h) (Or.inl ⟨by kernel_rfl, ?_⟩) hHeld123456789 ?_
    rotate_left
    · intro w' hSw
      (try dsimp only at hSw)
      go_simp
      try with_reducible rfl
    (try simp only [Act.put, List.setIfInBounds_toArray, List.set_cons_zero, List.set_cons_succ])
    refine wpAnyH_done (by kernel_rfl) ?_ _
    go_wp2_with fail
    go_ret
    exact ⟨rfl, HB1.out.trans (hb9.mono HB1.out.size)⟩
end Go.Proofs.Ytnegijbdgefaoaa.U
