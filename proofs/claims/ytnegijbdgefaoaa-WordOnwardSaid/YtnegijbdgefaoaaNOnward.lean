/-
  The walk of WordOnward. (MADE by wip/tools/gen_onward.py.)
-/
import Derived.Test.YtnegijbdgefaoaaNAwake
import Derived.Test.YtnegijbdgefaoaaRHand
namespace Go.Proofs.Ytnegijbdgefaoaa.U
open Go.RowKit
set_option linter.unusedVariables false
set_option linter.unusedSimpArgs false
set_option maxRecDepth 100000

theorem rdP_new (w : World) (ps : List Pl) (n : Nat) (hn : ps.length = n) (hm : n ≤ 1000) (cs : Array Value) (hc : cs = (plcs ps).toArray) : RdP (w.alloc (.cells cs 24)) (some ⟨w.heap.size, 0, none⟩) n n ps := by
  subst hc
  have hg := heap_alloc_new w (.cells (plcs ps).toArray 24)
  refine ⟨by rw [plcs_len]; omega, Nat.le_refl _, by unfold maxLen; omega, (fun e => by cases e), fun _ => ⟨_, 0, rfl, heap_lt hg, fun j u hu => ?_⟩⟩
  rw [cell_row hg, Nat.zero_add]; simpa using hu
theorem RdP.get0 {w W : World} {bO n c i : Nat} {ps : List Pl} {p : Pl} (h : RdP w (some ⟨bO, 0, none⟩) n c ps) (hb : Below w.heap.size w W) (hp : ps[i]? = some p) :
    W.cell? ⟨bO, i * 2, none⟩ = some (.int .i64 (p.1 : Nat)) ∧ W.cell? ⟨bO, i * 2 + 1, none⟩ = some (.int .i64 (p.2 : Nat)) := by
  obtain ⟨b, off, e, _, c0, c1⟩ := h.get hb hp
  cases e
  rw [Nat.zero_add] at c0 c1
  exact ⟨c0, c1⟩
set_option maxHeartbeats 8000000 in
theorem wordOnward_wide (a : Option Addr) (n c : Nat) (L : List (List Int)) (q : Po) (big : Bool) (W : World) (h : RdL (fun k => k < W.heap.size) W a n c L) (hq : i64p q) (hw : WideL L) :
    Calls Try.prog 7 #[.slice a n c, q.v, .bool big] W fun e w' => e = .returned (.bool true) ∧ Below W.heap.size W w' := by
  have hsm := h.small
  have hl := h.len
  obtain ⟨u, v⟩ := q
  obtain ⟨w1, hw1⟩ : ∃ w1, W.alloc (.cells #[.int .i64 u, .int .i64 v] 24) = w1 := ⟨_, rfl⟩
  have hb1 : Below W.heap.size W w1 := by rw [← hw1]; exact bal _ _
  have g1 : w1.heap[W.heap.size]? = some (.cells #[.int .i64 u, .int .i64 v] 24 (0, 0)) := by rw [← hw1]; exact heap_alloc_new W _
  obtain ⟨a0, a1, -, -⟩ := row2 g1
  have HS : Hid (∀ w' : World, Below w1.heap.size w1 w' → (fun w' => w'.cell? ⟨W.heap.size, 0, none⟩ = some (.int .i64 u) ∧ w'.cell? ⟨W.heap.size, 1, none⟩ = some (.int .i64 v)) w') := fun w' hb => ⟨(hb.cell (p := ⟨W.heap.size, 0, none⟩) (heap_lt g1)).trans a0, (hb.cell (p := ⟨W.heap.size, 1, none⟩) (heap_lt g1)).trans a1⟩
  have hL : ∀ w' : World, Below w1.heap.size w1 w' → RdL (fun k => k < W.heap.size) w' a n c L := fun w' hb => h.below (hb1.trans (hb.mono hb1.size))
  have HSMQ : Hid (Calls Try.prog 10 #[.slice a n c] w1 fun e w2 => e = .returned (.bool (smallL L)) ∧ w1 = w2) := small_wide _ a n c L w1 (hL w1 (Below.refl _ _)) hw
  have HAW : Hid (∀ w' : World, Below w1.heap.size w1 w' → Calls Try.prog 15 #[] w' fun e w2 => e = .returned (.bool true) ∧ Below w'.heap.size w' w2) := fun w' hb => awake_any w'
  have HW1 := Lib.hid hw1
  have HB1 := Lib.hid hb1
  obtain ⟨sm, hsmall⟩ : ∃ sm, smallL L = sm := ⟨_, rfl⟩
  rw [hsmall] at HSMQ
  show Calls Try.prog _ #[.slice a n c, .agg #[.int .i64 u, .int .i64 v], .bool big] W _
  cases sm with
  | false =>
    clear h hl hL hsmall g1 hw1 hb1
    go_enter Try.func7, Try.ntmps7
    go_upto_region 1 with fail
    rw [HW1.out]
    go_wp2_with (first
      | (go_at_call 10; refine HSMQ.out.mono ?_; rintro e w2 ⟨rfl, hw2⟩; subst hw2)
      | (go_at_call 15; refine (HAW.out _ (Below.refl _ _)).mono ?_; rintro e wz ⟨rfl, hbz⟩))
    go_ret
    exact ⟨rfl, HB1.out.trans (hbz.mono HB1.out.size)⟩
  | true =>
  have hs := smallL_wide hsmall
  by_cases h0 : n = 0
  · have q1 : ((n : Int) == 0) = true := by simp [h0]
    clear h hl hL hsmall hs h0 g1 hw1 hb1
    go_enter Try.func7, Try.ntmps7
    go_upto_region 1 with fail
    rw [HW1.out]
    go_wp2_with (first
      | (go_at_call 10; refine HSMQ.out.mono ?_; rintro e w2 ⟨rfl, hw2⟩; subst hw2)
      | (go_at_call 15; refine (HAW.out _ (Below.refl _ _)).mono ?_; rintro e wz ⟨rfl, hbz⟩))
    go_ret
    exact ⟨rfl, HB1.out.trans (hbz.mono HB1.out.size)⟩
  have q1 : ((n : Int) == 0) = false := by simp; omega
  have hne : L ≠ [] := by rintro rfl; simp at hl; omega
  obtain ⟨k1, hk1⟩ : ∃ k1 : Int, (if big then 1 else 0) = k1 := ⟨_, rfl⟩
  obtain ⟨k2, hk2⟩ : ∃ k2 : Int, (if big then 3 else 2) = k2 := ⟨_, rfl⟩
  have hint : ∀ p : Pl, p ∈ places L → i64p ⟨(p.1 : Int), (p.2 : Int)⟩ := fun p hp => by
    have h1 := places_mem.1 hp
    have h3 := h1.1
    have h2 := size_take_le L (p.1 + 1)
    have h4 : (lnL L p.1).length ≤ sizeN (lens L) := by
      have : L[p.1]? = some (lnL L p.1) := by unfold lnL; rw [List.getD_eq_getElem?_getD, List.getElem?_eq_getElem h3]; rfl
      have := size_take this
      omega
    have h5 := h1.2
    have h6 := size_count L
    exact ⟨⟨by simp only; omega, by simp only; omega⟩, by simp only; omega, by simp only; omega⟩
  have HCX : Hid (∀ (p : Pl) (w' : World), p ∈ places L → Below w1.heap.size w1 w' → Calls Try.prog 8 #[.slice a n c, .agg #[.int .i64 (p.1 : Nat), .int .i64 (p.2 : Nat)]] w' fun e w2 => e = .returned (.agg #[.int .i64 (p.1 : Nat), .int .i64 (p.2 : Nat)]) ∧ Below w'.heap.size w' w2) := fun p w' hp hb => (by
    have := wclip_any _ a n c L ⟨(p.1 : Int), (p.2 : Int)⟩ w' (hL w' hb) (hint p hp)
    rw [clipP_id (places_mem.1 hp)] at this
    exact this)
  have HLC : Hid (∀ w' : World, Below w1.heap.size w1 w' → Calls Try.prog 12 #[.slice a n c] w' fun e w2 => e = .returned (plV (lastP L)) ∧ Below w'.heap.size w' w2) := fun w' hb => rlast_any _ a n c L w' (hL w' hb) hs
  have HAC : Hid (∀ (p x : Pl) (w' : World), Below w1.heap.size w1 w' → Calls Try.prog 27 #[plV p, plV x] w' fun e w2 => e = .returned (.bool (aheadP p x)) ∧ Below w'.heap.size w' w2) := fun p x w' hb => rahead_any p x w'
  obtain ⟨cp, hcp⟩ : ∃ cp, clipP L u v = cp := ⟨_, rfl⟩
  have HON : Hid (∀ x ∈ [behindP L k1 cp, behindP L k2 cp, behindP L 4 cp, behindP L 6 cp], x ∈ places L ∧ (aheadP cp x = true ∨ x = lastP L)) := by
    intro x hx
    simp only [List.mem_cons, List.not_mem_nil, or_false] at hx
    rcases hx with rfl | rfl | rfl | rfl <;> exact ⟨behindP_mem hne _ _, behindP_on _ _⟩
  have HBK : Hid (∀ x ∈ [beforeP L k1 cp, beforeP L 5 cp, beforeP L 6 cp], x ∈ places L ∧ (aheadP x cp = true ∨ x = (0, 0))) := by
    intro x hx
    simp only [List.mem_cons, List.not_mem_nil, or_false] at hx
    rcases hx with rfl | rfl | rfl <;> exact ⟨beforeP_mem hne _ _, beforeP_on _ _⟩
  obtain ⟨lp, hlp⟩ : ∃ lp, lastP L = lp := ⟨_, rfl⟩
  rw [hlp] at HLC HON
  obtain ⟨⟨p1i, p1j⟩, hp1⟩ : ∃ p, behindP L k1 cp = p := ⟨_, rfl⟩
  obtain ⟨⟨p2i, p2j⟩, hp2⟩ : ∃ p, behindP L k2 cp = p := ⟨_, rfl⟩
  obtain ⟨⟨p3i, p3j⟩, hp3⟩ : ∃ p, behindP L 4 cp = p := ⟨_, rfl⟩
  obtain ⟨⟨p4i, p4j⟩, hp4⟩ : ∃ p, behindP L 6 cp = p := ⟨_, rfl⟩
  obtain ⟨⟨b1i, b1j⟩, hb1x⟩ : ∃ p, beforeP L k1 cp = p := ⟨_, rfl⟩
  obtain ⟨⟨b2i, b2j⟩, hb2⟩ : ∃ p, beforeP L 5 cp = p := ⟨_, rfl⟩
  obtain ⟨⟨b3i, b3j⟩, hb3⟩ : ∃ p, beforeP L 6 cp = p := ⟨_, rfl⟩
  rw [hp1, hp2, hp3, hp4] at HON
  rw [hb1x, hb2, hb3] at HBK
  have HP1 : Hid (∀ w' : World, Below w1.heap.size w1 w' → Calls Try.prog 16 #[.slice a n c, .agg #[.int .i64 u, .int .i64 v], .bool big] w' fun e w2 => e = .returned (.agg #[.int .i64 (p1i : Nat), .int .i64 (p1j : Nat)]) ∧ Below w'.heap.size w' w2) := fun w' hb => (by have := wnext_any _ a n c L ⟨u, v⟩ big w' (hL w' hb) hq hs; rw [hk1, hcp, hp1] at this; exact this)
  have HP2 : Hid (∀ w' : World, Below w1.heap.size w1 w' → Calls Try.prog 20 #[.slice a n c, .agg #[.int .i64 u, .int .i64 v], .bool big] w' fun e w2 => e = .returned (.agg #[.int .i64 (p2i : Nat), .int .i64 (p2j : Nat)]) ∧ Below w'.heap.size w' w2) := fun w' hb => (by have := wend_any _ a n c L ⟨u, v⟩ big w' (hL w' hb) hq hs; rw [hk2, hcp, hp2] at this; exact this)
  have HP3 : Hid (∀ w' : World, Below w1.heap.size w1 w' → Calls Try.prog 21 #[.slice a n c, .agg #[.int .i64 u, .int .i64 v]] w' fun e w2 => e = .returned (.agg #[.int .i64 (p3i : Nat), .int .i64 (p3j : Nat)]) ∧ Below w'.heap.size w' w2) := fun w' hb => (by have := wparan_any _ a n c L ⟨u, v⟩ w' (hL w' hb) hq hs; rw [hcp, hp3] at this; exact this)
  have HP4 : Hid (∀ w' : World, Below w1.heap.size w1 w' → Calls Try.prog 23 #[.slice a n c, .agg #[.int .i64 u, .int .i64 v]] w' fun e w2 => e = .returned (.agg #[.int .i64 (p4i : Nat), .int .i64 (p4j : Nat)]) ∧ Below w'.heap.size w' w2) := fun w' hb => (by have := wsentn_any _ a n c L ⟨u, v⟩ w' (hL w' hb) hq hs; rw [hcp, hp4] at this; exact this)
  have HQ1 : Hid (∀ w' : World, Below w1.heap.size w1 w' → Calls Try.prog 18 #[.slice a n c, .agg #[.int .i64 u, .int .i64 v], .bool big] w' fun e w2 => e = .returned (.agg #[.int .i64 (b1i : Nat), .int .i64 (b1j : Nat)]) ∧ Below w'.heap.size w' w2) := fun w' hb => (by have := wprev_any _ a n c L ⟨u, v⟩ big w' (hL w' hb) hq hs; rw [hk1, hcp, hb1x] at this; exact this)
  have HQ2 : Hid (∀ w' : World, Below w1.heap.size w1 w' → Calls Try.prog 22 #[.slice a n c, .agg #[.int .i64 u, .int .i64 v]] w' fun e w2 => e = .returned (.agg #[.int .i64 (b2i : Nat), .int .i64 (b2j : Nat)]) ∧ Below w'.heap.size w' w2) := fun w' hb => (by have := wparap_any _ a n c L ⟨u, v⟩ w' (hL w' hb) hq hs; rw [hcp, hb2] at this; exact this)
  have HQ3 : Hid (∀ w' : World, Below w1.heap.size w1 w' → Calls Try.prog 24 #[.slice a n c, .agg #[.int .i64 u, .int .i64 v]] w' fun e w2 => e = .returned (.agg #[.int .i64 (b3i : Nat), .int .i64 (b3j : Nat)]) ∧ Below w'.heap.size w' w2) := fun w' hb => (by have := wsentp_any _ a n c L ⟨u, v⟩ w' (hL w' hb) hq hs; rw [hcp, hb3] at this; exact this)
  obtain ⟨ci, cj⟩ := cp
  obtain ⟨li, lj⟩ := lp
  have HCL : Hid (∀ w' : World, Below w1.heap.size w1 w' → Calls Try.prog 8 #[.slice a n c, .agg #[.int .i64 u, .int .i64 v]] w' fun e w2 => e = .returned (.agg #[.int .i64 (ci : Nat), .int .i64 (cj : Nat)]) ∧ Below w'.heap.size w' w2) := fun w' hb => (by have := wclip_any _ a n c L ⟨u, v⟩ w' (hL w' hb) hq; rw [hcp] at this; exact this)
  clear h hl hL hsmall hs h0 hne hint hcp hlp hp1 hp2 hp3 hp4 hb1x hb2 hb3 hk1 hk2 g1 hw1 hb1
  go_enter Try.func7, Try.ntmps7
  go_upto_region 1 with fail
  rw [HW1.out]
  go_wp2_with (first
    | (go_at_call 10; refine HSMQ.out.mono ?_; rintro e w2 ⟨rfl, hw2⟩; subst hw2)
    | (go_at_call 8; refine (HCL.out w1 (Below.refl _ _)).mono ?_; rintro e w2 ⟨rfl, hb2⟩))
  obtain ⟨w3, hw3⟩ : ∃ w3, w2.alloc (.cells #[.int .i64 (ci : Nat), .int .i64 (cj : Nat)] 24) = w3 := ⟨_, rfl⟩
  rw [hw3]
  have hb3 : Below w1.heap.size w1 w3 := by rw [← hw3]; exact hb2.trans ((bal w2 _).mono hb2.size)
  have gq : w3.heap[w2.heap.size]? = some (.cells #[.int .i64 (ci : Nat), .int .i64 (cj : Nat)] 24 (0, 0)) := by rw [← hw3]; exact heap_alloc_new w2 _
  have HGQ := Lib.hid gq
  have hHS := HS.out w3 hb3
  obtain ⟨c0, c1⟩ := hHS
  clear gq hw3
  refine wp_region_held (S := fun w' => w'.cell? ⟨W.heap.size, 0, none⟩ = some (.int .i64 u) ∧ w'.cell? ⟨W.heap.size, 1, none⟩ = some (.int .i64 v)) (by kernel_rfl) ?_
  change wpAnyH _ _ _ _ _ _ _ _ (World.drew _)
  have hHeld : (fun w' => w'.cell? ⟨W.heap.size, 0, none⟩ = some (.int .i64 u) ∧ w'.cell? ⟨W.heap.size, 1, none⟩ = some (.int .i64 v)) (World.drew w3) := ⟨c0, c1⟩
  refine takeH 0 (some 24) (v := ?_) rfl rfl (by kernel_rfl) (by kernel_rfl) (by kernel_rfl) (fun _ _ _ h => h) (Or.inl ⟨by kernel_rfl, ?_⟩) hHeld ?_
  rotate_left
  · intro w' hSw
    (try dsimp only at hSw)
    go_simp
    try with_reducible rfl
  (try simp only [Act.put, List.setIfInBounds_toArray, List.set_cons_zero, List.set_cons_succ])
  refine takeH 1 (some 25) (v := ?_) rfl rfl (by kernel_rfl) (by kernel_rfl) (by kernel_rfl) (fun _ _ _ h => h) (Or.inl ⟨by kernel_rfl, ?_⟩) hHeld ?_
  rotate_left
  · intro w' hSw
    (try dsimp only at hSw)
    go_simp
    try with_reducible rfl
  (try simp only [Act.put, List.setIfInBounds_toArray, List.set_cons_zero, List.set_cons_succ])
  refine takeH 2 (some 26) (v := ?_) rfl rfl (by kernel_rfl) (by kernel_rfl) (by kernel_rfl) (fun _ _ _ h => h) (Or.inl ⟨by kernel_rfl, ?_⟩) hHeld ?_
  rotate_left
  · intro w' hSw
    (try dsimp only at hSw)
    go_simp
    try with_reducible rfl
  (try simp only [Act.put, List.setIfInBounds_toArray, List.set_cons_zero, List.set_cons_succ])
  refine takeH 4 (some 28) (v := ?_) rfl rfl (by kernel_rfl) (by kernel_rfl) (by kernel_rfl) (fun _ _ _ h => h) (Or.inl ⟨by kernel_rfl, ?_⟩) hHeld ?_
  rotate_left
  · intro w' hSw
    (try dsimp only at hSw)
    go_simp
    try with_reducible rfl
  (try simp only [Act.put, List.setIfInBounds_toArray, List.set_cons_zero, List.set_cons_succ])
  refine takeH 5 (some 29) (v := ?_) rfl rfl (by kernel_rfl) (by kernel_rfl) (by kernel_rfl) (fun _ _ _ h => h) (Or.inl ⟨by kernel_rfl, ?_⟩) hHeld ?_
  rotate_left
  · intro w' hSw
    (try dsimp only at hSw)
    go_simp
    try with_reducible rfl
  (try simp only [Act.put, List.setIfInBounds_toArray, List.set_cons_zero, List.set_cons_succ])
  refine takeH 6 (some 30) (v := ?_) rfl rfl (by kernel_rfl) (by kernel_rfl) (by kernel_rfl) (fun _ _ _ h => h) (Or.inl ⟨by kernel_rfl, ?_⟩) hHeld ?_
  rotate_left
  · intro w' hSw
    (try dsimp only at hSw)
    go_simp
    try with_reducible rfl
  (try simp only [Act.put, List.setIfInBounds_toArray, List.set_cons_zero, List.set_cons_succ])
  refine takeH 8 (some 32) (v := ?_) rfl rfl (by kernel_rfl) (by kernel_rfl) (by kernel_rfl) (fun _ _ _ h => h) (Or.inl ⟨by kernel_rfl, ?_⟩) hHeld ?_
  rotate_left
  · intro w' hSw
    (try dsimp only at hSw)
    go_simp
    try with_reducible rfl
  (try simp only [Act.put, List.setIfInBounds_toArray, List.set_cons_zero, List.set_cons_succ])
  refine takeH 9 (some 33) (v := ?_) rfl rfl (by kernel_rfl) (by kernel_rfl) (by kernel_rfl) (fun _ _ _ h => h) (Or.inl ⟨by kernel_rfl, ?_⟩) hHeld ?_
  rotate_left
  · intro w' hSw
    (try dsimp only at hSw)
    go_simp
    try with_reducible rfl
  (try simp only [Act.put, List.setIfInBounds_toArray, List.set_cons_zero, List.set_cons_succ])
  refine takeH 11 (some 35) (v := ?_) rfl rfl (by kernel_rfl) (by kernel_rfl) (by kernel_rfl) (fun _ _ _ h => h) (Or.inl ⟨by kernel_rfl, ?_⟩) hHeld ?_
  rotate_left
  · intro w' hSw
    (try dsimp only at hSw)
    go_simp
    try with_reducible rfl
  (try simp only [Act.put, List.setIfInBounds_toArray, List.set_cons_zero, List.set_cons_succ])
  refine takeH 12 (some 36) (v := ?_) rfl rfl (by kernel_rfl) (by kernel_rfl) (by kernel_rfl) (fun _ _ _ h => h) (Or.inl ⟨by kernel_rfl, ?_⟩) hHeld ?_
  rotate_left
  · intro w' hSw
    (try dsimp only at hSw)
    go_simp
    try with_reducible rfl
  (try simp only [Act.put, List.setIfInBounds_toArray, List.set_cons_zero, List.set_cons_succ])
  refine callH 3 (some 27) (f := 16) (args := #[.slice a n c, .agg #[.int .i64 u, .int .i64 v], .bool big]) rfl rfl (by kernel_rfl) (by kernel_rfl) (by kernel_rfl) ?_
  refine (HP1.out _ (btr hb3 ((Below.refl _ w3).drew))).mono ?_; rintro e x1 ⟨rfl, gx1⟩; have hx1 := btr ((Below.refl _ w3).drew) gx1; clear gx1
  have hHeld1 := HS.out _ (btr hb3 hx1)
  refine ⟨_, rfl, hHeld1, ?_⟩
  (try simp only [Act.put, List.setIfInBounds_toArray, List.set_cons_zero, List.set_cons_succ])
  refine callH 7 (some 31) (f := 20) (args := #[.slice a n c, .agg #[.int .i64 u, .int .i64 v], .bool big]) rfl rfl (by kernel_rfl) (by kernel_rfl) (by kernel_rfl) ?_
  refine (HP2.out _ (btr hb3 hx1)).mono ?_; rintro e x2 ⟨rfl, gx2⟩; have hx2 := btr hx1 gx2; clear gx2
  have hHeld12 := HS.out _ (btr hb3 hx2)
  refine ⟨_, rfl, hHeld12, ?_⟩
  (try simp only [Act.put, List.setIfInBounds_toArray, List.set_cons_zero, List.set_cons_succ])
  refine callH 10 (some 34) (f := 21) (args := #[.slice a n c, .agg #[.int .i64 u, .int .i64 v]]) rfl rfl (by kernel_rfl) (by kernel_rfl) (by kernel_rfl) ?_
  refine (HP3.out _ (btr hb3 hx2)).mono ?_; rintro e x3 ⟨rfl, gx3⟩; have hx3 := btr hx2 gx3; clear gx3
  have hHeld123 := HS.out _ (btr hb3 hx3)
  refine ⟨_, rfl, hHeld123, ?_⟩
  (try simp only [Act.put, List.setIfInBounds_toArray, List.set_cons_zero, List.set_cons_succ])
  refine callH 13 (some 37) (f := 23) (args := #[.slice a n c, .agg #[.int .i64 u, .int .i64 v]]) rfl rfl (by kernel_rfl) (by kernel_rfl) (by kernel_rfl) ?_
  refine (HP4.out _ (btr hb3 hx3)).mono ?_; rintro e x4 ⟨rfl, gx4⟩; have hx4 := btr hx3 gx4; clear gx4
  have hHeld1234 := HS.out _ (btr hb3 hx4)
  refine ⟨_, rfl, hHeld1234, ?_⟩
  (try simp only [Act.put, List.setIfInBounds_toArray, List.set_cons_zero, List.set_cons_succ])
  have hHeld12345 : (fun w' => w'.cell? ⟨W.heap.size, 0, none⟩ = some (.int .i64 u) ∧ w'.cell? ⟨W.heap.size, 1, none⟩ = some (.int .i64 v)) ((x4.alloc (.cells #[.int .i64 (p1i : Nat), .int .i64 (p1j : Nat), .int .i64 (p2i : Nat), .int .i64 (p2j : Nat), .int .i64 (p3i : Nat), .int .i64 (p3j : Nat), .int .i64 (p4i : Nat), .int .i64 (p4j : Nat)] 24))) := HS.out _ (btr hb3 (btr hx4 (bal x4 _)))
  refine runH 14 (some 38) (v := .slice (some ⟨x4.heap.size, 0, none⟩) 4 4) (w' := (x4.alloc (.cells #[.int .i64 (p1i : Nat), .int .i64 (p1j : Nat), .int .i64 (p2i : Nat), .int .i64 (p2j : Nat), .int .i64 (p3i : Nat), .int .i64 (p3j : Nat), .int .i64 (p4i : Nat), .int .i64 (p4j : Nat)] 24))) rfl rfl (by kernel_rfl) (by kernel_rfl) ?_ hHeld12345 ?_
  · go_simp
    try rfl
  (try simp only [Act.put, List.setIfInBounds_toArray, List.set_cons_zero, List.set_cons_succ])
  refine takeH 15 (some 8) (v := ?_) rfl rfl (by kernel_rfl) (by kernel_rfl) (by kernel_rfl) (fun _ _ _ h => h) (Or.inl ⟨by kernel_rfl, ?_⟩) hHeld12345 ?_
  rotate_left
  · intro w' hSw
    (try dsimp only at hSw)
    go_simp
    try with_reducible rfl
  (try simp only [Act.put, List.setIfInBounds_toArray, List.set_cons_zero, List.set_cons_succ])
  refine wpAnyH_done (by kernel_rfl) ?_ _
  obtain ⟨w8, hw8⟩ : ∃ w8, (x4.alloc (.cells #[.int .i64 (p1i : Nat), .int .i64 (p1j : Nat), .int .i64 (p2i : Nat), .int .i64 (p2j : Nat), .int .i64 (p3i : Nat), .int .i64 (p3j : Nat), .int .i64 (p4i : Nat), .int .i64 (p4j : Nat)] 24)) = w8 := ⟨_, rfl⟩
  rw [hw8]
  have h38 : Below w3.heap.size w3 w8 := by rw [← hw8]; exact btr hx4 (bal x4 _)
  have hb8 := btr hb3 h38
  have HR8 : Hid (RdP w8 (some ⟨x4.heap.size, 0, none⟩) 4 4 [(p1i, p1j), (p2i, p2j), (p3i, p3j), (p4i, p4j)]) := by rw [← hw8]; exact rdP_new x4 _ 4 rfl (by omega) _ rfl
  have HQ8 : Hid (w8.heap[w2.heap.size]? = some (.cells #[.int .i64 (ci : Nat), .int .i64 (cj : Nat)] 24 (0, 0))) := (h38.block _ (heap_lt HGQ.out)).trans HGQ.out
  obtain ⟨c0, c1⟩ := HS.out w8 hb8
  clear hw8 h38
  go_wp2_with fail
  refine wp_region_held (S := fun w' => w'.cell? ⟨W.heap.size, 0, none⟩ = some (.int .i64 u) ∧ w'.cell? ⟨W.heap.size, 1, none⟩ = some (.int .i64 v)) (by kernel_rfl) ?_
  change wpAnyH _ _ _ _ _ _ _ _ (World.drew _)
  have hHeldB : (fun w' => w'.cell? ⟨W.heap.size, 0, none⟩ = some (.int .i64 u) ∧ w'.cell? ⟨W.heap.size, 1, none⟩ = some (.int .i64 v)) (World.drew w8) := ⟨c0, c1⟩
  refine takeH 0 (some 39) (v := ?_) rfl rfl (by kernel_rfl) (by kernel_rfl) (by kernel_rfl) (fun _ _ _ h => h) (Or.inl ⟨by kernel_rfl, ?_⟩) hHeldB ?_
  rotate_left
  · intro w' hSw
    (try dsimp only at hSw)
    go_simp
    try with_reducible rfl
  (try simp only [Act.put, List.setIfInBounds_toArray, List.set_cons_zero, List.set_cons_succ])
  refine takeH 1 (some 40) (v := ?_) rfl rfl (by kernel_rfl) (by kernel_rfl) (by kernel_rfl) (fun _ _ _ h => h) (Or.inl ⟨by kernel_rfl, ?_⟩) hHeldB ?_
  rotate_left
  · intro w' hSw
    (try dsimp only at hSw)
    go_simp
    try with_reducible rfl
  (try simp only [Act.put, List.setIfInBounds_toArray, List.set_cons_zero, List.set_cons_succ])
  refine takeH 2 (some 41) (v := ?_) rfl rfl (by kernel_rfl) (by kernel_rfl) (by kernel_rfl) (fun _ _ _ h => h) (Or.inl ⟨by kernel_rfl, ?_⟩) hHeldB ?_
  rotate_left
  · intro w' hSw
    (try dsimp only at hSw)
    go_simp
    try with_reducible rfl
  (try simp only [Act.put, List.setIfInBounds_toArray, List.set_cons_zero, List.set_cons_succ])
  refine takeH 4 (some 43) (v := ?_) rfl rfl (by kernel_rfl) (by kernel_rfl) (by kernel_rfl) (fun _ _ _ h => h) (Or.inl ⟨by kernel_rfl, ?_⟩) hHeldB ?_
  rotate_left
  · intro w' hSw
    (try dsimp only at hSw)
    go_simp
    try with_reducible rfl
  (try simp only [Act.put, List.setIfInBounds_toArray, List.set_cons_zero, List.set_cons_succ])
  refine takeH 5 (some 44) (v := ?_) rfl rfl (by kernel_rfl) (by kernel_rfl) (by kernel_rfl) (fun _ _ _ h => h) (Or.inl ⟨by kernel_rfl, ?_⟩) hHeldB ?_
  rotate_left
  · intro w' hSw
    (try dsimp only at hSw)
    go_simp
    try with_reducible rfl
  (try simp only [Act.put, List.setIfInBounds_toArray, List.set_cons_zero, List.set_cons_succ])
  refine takeH 7 (some 46) (v := ?_) rfl rfl (by kernel_rfl) (by kernel_rfl) (by kernel_rfl) (fun _ _ _ h => h) (Or.inl ⟨by kernel_rfl, ?_⟩) hHeldB ?_
  rotate_left
  · intro w' hSw
    (try dsimp only at hSw)
    go_simp
    try with_reducible rfl
  (try simp only [Act.put, List.setIfInBounds_toArray, List.set_cons_zero, List.set_cons_succ])
  refine takeH 8 (some 47) (v := ?_) rfl rfl (by kernel_rfl) (by kernel_rfl) (by kernel_rfl) (fun _ _ _ h => h) (Or.inl ⟨by kernel_rfl, ?_⟩) hHeldB ?_
  rotate_left
  · intro w' hSw
    (try dsimp only at hSw)
    go_simp
    try with_reducible rfl
  (try simp only [Act.put, List.setIfInBounds_toArray, List.set_cons_zero, List.set_cons_succ])
  refine callH 3 (some 42) (f := 18) (args := #[.slice a n c, .agg #[.int .i64 u, .int .i64 v], .bool big]) rfl rfl (by kernel_rfl) (by kernel_rfl) (by kernel_rfl) ?_
  refine (HQ1.out _ (btr hb8 ((Below.refl _ w8).drew))).mono ?_; rintro e y1 ⟨rfl, gy1⟩; have hy1 := btr ((Below.refl _ w8).drew) gy1; clear gy1
  have hHeldB1 := HS.out _ (btr hb8 hy1)
  refine ⟨_, rfl, hHeldB1, ?_⟩
  (try simp only [Act.put, List.setIfInBounds_toArray, List.set_cons_zero, List.set_cons_succ])
  refine callH 6 (some 45) (f := 22) (args := #[.slice a n c, .agg #[.int .i64 u, .int .i64 v]]) rfl rfl (by kernel_rfl) (by kernel_rfl) (by kernel_rfl) ?_
  refine (HQ2.out _ (btr hb8 hy1)).mono ?_; rintro e y2 ⟨rfl, gy2⟩; have hy2 := btr hy1 gy2; clear gy2
  have hHeldB12 := HS.out _ (btr hb8 hy2)
  refine ⟨_, rfl, hHeldB12, ?_⟩
  (try simp only [Act.put, List.setIfInBounds_toArray, List.set_cons_zero, List.set_cons_succ])
  refine callH 9 (some 48) (f := 24) (args := #[.slice a n c, .agg #[.int .i64 u, .int .i64 v]]) rfl rfl (by kernel_rfl) (by kernel_rfl) (by kernel_rfl) ?_
  refine (HQ3.out _ (btr hb8 hy2)).mono ?_; rintro e y3 ⟨rfl, gy3⟩; have hy3 := btr hy2 gy3; clear gy3
  have hHeldB123 := HS.out _ (btr hb8 hy3)
  refine ⟨_, rfl, hHeldB123, ?_⟩
  (try simp only [Act.put, List.setIfInBounds_toArray, List.set_cons_zero, List.set_cons_succ])
  have hHeldB1234 : (fun w' => w'.cell? ⟨W.heap.size, 0, none⟩ = some (.int .i64 u) ∧ w'.cell? ⟨W.heap.size, 1, none⟩ = some (.int .i64 v)) ((y3.alloc (.cells #[.int .i64 (b1i : Nat), .int .i64 (b1j : Nat), .int .i64 (b2i : Nat), .int .i64 (b2j : Nat), .int .i64 (b3i : Nat), .int .i64 (b3j : Nat)] 24))) := HS.out _ (btr hb8 (btr hy3 (bal y3 _)))
  refine runH 10 (some 49) (v := .slice (some ⟨y3.heap.size, 0, none⟩) 3 3) (w' := (y3.alloc (.cells #[.int .i64 (b1i : Nat), .int .i64 (b1j : Nat), .int .i64 (b2i : Nat), .int .i64 (b2j : Nat), .int .i64 (b3i : Nat), .int .i64 (b3j : Nat)] 24))) rfl rfl (by kernel_rfl) (by kernel_rfl) ?_ hHeldB1234 ?_
  · go_simp
    try rfl
  (try simp only [Act.put, List.setIfInBounds_toArray, List.set_cons_zero, List.set_cons_succ])
  refine takeH 11 (some 9) (v := ?_) rfl rfl (by kernel_rfl) (by kernel_rfl) (by kernel_rfl) (fun _ _ _ h => h) (Or.inl ⟨by kernel_rfl, ?_⟩) hHeldB1234 ?_
  rotate_left
  · intro w' hSw
    (try dsimp only at hSw)
    go_simp
    try with_reducible rfl
  (try simp only [Act.put, List.setIfInBounds_toArray, List.set_cons_zero, List.set_cons_succ])
  refine wpAnyH_done (by kernel_rfl) ?_ _
  obtain ⟨w13, hw13⟩ : ∃ w13, (y3.alloc (.cells #[.int .i64 (b1i : Nat), .int .i64 (b1j : Nat), .int .i64 (b2i : Nat), .int .i64 (b2j : Nat), .int .i64 (b3i : Nat), .int .i64 (b3j : Nat)] 24)) = w13 := ⟨_, rfl⟩
  rw [hw13]
  have h813 : Below w8.heap.size w8 w13 := by rw [← hw13]; exact btr hy3 (bal y3 _)
  have hb13 := btr hb8 h813
  have HO : Hid (RdP w13 (some ⟨x4.heap.size, 0, none⟩) 4 4 [(p1i, p1j), (p2i, p2j), (p3i, p3j), (p4i, p4j)]) := HR8.out.below h813
  have HB : Hid (RdP w13 (some ⟨y3.heap.size, 0, none⟩) 3 3 [(b1i, b1j), (b2i, b2j), (b3i, b3j)]) := by rw [← hw13]; exact rdP_new y3 _ 3 rfl (by omega) _ rfl
  have HQ : Hid (w13.heap[w2.heap.size]? = some (.cells #[.int .i64 (ci : Nat), .int .i64 (cj : Nat)] 24 (0, 0))) := (h813.block _ (heap_lt HQ8.out)).trans HQ8.out
  have H13 := Lib.hid hb13
  clear hw13 h813 HR8 HQ8 hb13 hb8 hb3 c0 c1
  go_wp2_with fail
  have HLCX : Hid (∀ w' : World, Below w1.heap.size w1 w' → Calls Try.prog 12 #[.slice a n c] w' fun e w2 => e = .returned (.agg #[.int .i64 (li : Nat), .int .i64 (lj : Nat)]) ∧ Below w'.heap.size w' w2) := HLC.out
  clear HLC
  have HLC := HLCX
  clear HLCX
  go_loopw [10] (fun iv wr => ∃ i : Nat, i ≤ 4 ∧ iv = .int .i64 (i : Nat) ∧ Below w13.heap.size w13 wr) (fun iv _ => 4 - (intOf iv).toNat)
  case atStart => exact ⟨0, by omega, rfl, Below.refl _ _⟩
  case round =>
    obtain ⟨i, hi, rfl, hbr⟩ := hrel
    by_cases hlt : i < 4
    · have hin : i < 4 := hlt
      obtain ⟨x, hx⟩ : ∃ x, [(p1i, p1j), (p2i, p2j), (p3i, p3j), (p4i, p4j)][i]? = some x := ⟨[(p1i, p1j), (p2i, p2j), (p3i, p3j), (p4i, p4j)][i]'(by simpa using hlt), List.getElem?_eq_getElem _⟩
      have hxx := HON.out x (List.mem_of_getElem? hx)
      obtain ⟨t0, t1⟩ := HO.out.get0 hbr hx
      obtain ⟨d0, d1, -, -⟩ := row2 ((hbr.block _ (heap_lt HQ.out)).trans HQ.out)
      have hW := btr H13.out hbr
      have HSS : Hid (∀ w' : World, Below wr.heap.size wr w' → (fun w' => w'.cell? ⟨w2.heap.size, 0, none⟩ = some (.int .i64 (ci : Nat)) ∧ w'.cell? ⟨w2.heap.size, 1, none⟩ = some (.int .i64 (cj : Nat)) ∧ w'.cell? ⟨x4.heap.size, i * 2, none⟩ = some (.int .i64 (x.1 : Nat)) ∧ w'.cell? ⟨x4.heap.size, i * 2 + 1, none⟩ = some (.int .i64 (x.2 : Nat))) w') := fun w' hb => by
        obtain ⟨e0, e1⟩ := HO.out.get0 (btr hbr hb) hx
        obtain ⟨f0, f1, -, -⟩ := row2 (((btr hbr hb).block _ (heap_lt HQ.out)).trans HQ.out)
        exact ⟨f0, f1, e0, e1⟩
      have HCP := Lib.hid (fun (w' : World) (hb : Below w1.heap.size w1 w') => HCX.out x w' hxx.1 hb)
      have hxo := hxx.2
      obtain ⟨xi, xj⟩ := x
      simp only at t0 t1 HSS HCP
      have hAH : ∀ w' : World, Below w1.heap.size w1 w' → Calls Try.prog 27 #[.agg #[.int .i64 (ci : Nat), .int .i64 (cj : Nat)], .agg #[.int .i64 (xi : Nat), .int .i64 (xj : Nat)]] w' fun e w2 => e = .returned (.bool (aheadP (ci, cj) (xi, xj))) ∧ Below w'.heap.size w' w2 := fun w' hb => HAC.out (ci, cj) (xi, xj) w' hb
      obtain ⟨b, hbA⟩ : ∃ b, aheadP (ci, cj) (xi, xj) = b := ⟨_, rfl⟩
      rw [hbA] at hAH hxo
      have HAH := Lib.hid hAH
      clear hxx hx hAH hbA
      cases b with
      | true =>
        clear hxo
        go_wp2_with fail
        refine wp_region_held (S := fun w' => w'.cell? ⟨w2.heap.size, 0, none⟩ = some (.int .i64 (ci : Nat)) ∧ w'.cell? ⟨w2.heap.size, 1, none⟩ = some (.int .i64 (cj : Nat)) ∧ w'.cell? ⟨x4.heap.size, i * 2, none⟩ = some (.int .i64 (xi : Nat)) ∧ w'.cell? ⟨x4.heap.size, i * 2 + 1, none⟩ = some (.int .i64 (xj : Nat))) (by kernel_rfl) ?_
        change wpAnyH _ _ _ _ _ _ _ _ (World.drew _)
        have hHeld : (fun w' => w'.cell? ⟨w2.heap.size, 0, none⟩ = some (.int .i64 (ci : Nat)) ∧ w'.cell? ⟨w2.heap.size, 1, none⟩ = some (.int .i64 (cj : Nat)) ∧ w'.cell? ⟨x4.heap.size, i * 2, none⟩ = some (.int .i64 (xi : Nat)) ∧ w'.cell? ⟨x4.heap.size, i * 2 + 1, none⟩ = some (.int .i64 (xj : Nat))) (World.drew wr) := ⟨d0, d1, t0, t1⟩
        refine takeH 0 (some 56) (v := ?_) rfl rfl (by kernel_rfl) (by kernel_rfl) (by kernel_rfl) (fun _ _ _ h => h) (Or.inl ⟨by kernel_rfl, ?_⟩) hHeld ?_
        rotate_left
        · intro w' hSw
          (try dsimp only at hSw)
          go_simp
          try with_reducible rfl
        (try simp only [Act.put, List.setIfInBounds_toArray, List.set_cons_zero, List.set_cons_succ])
        refine takeH 1 (some 57) (v := ?_) rfl rfl (by kernel_rfl) (by kernel_rfl) (by kernel_rfl) (fun _ _ _ h => h) (Or.inl ⟨by kernel_rfl, ?_⟩) hHeld ?_
        rotate_left
        · intro w' hSw
          (try dsimp only at hSw)
          go_simp
          try with_reducible rfl
        (try simp only [Act.put, List.setIfInBounds_toArray, List.set_cons_zero, List.set_cons_succ])
        refine takeH 2 (some 58) (v := ?_) rfl rfl (by kernel_rfl) (by kernel_rfl) (by kernel_rfl) (fun _ _ _ h => h) (Or.inl ⟨by kernel_rfl, ?_⟩) hHeld ?_
        rotate_left
        · intro w' hSw
          (try dsimp only at hSw)
          go_simp
          try with_reducible rfl
        (try simp only [Act.put, List.setIfInBounds_toArray, List.set_cons_zero, List.set_cons_succ])
        refine takeH 3 (some 59) (v := ?_) rfl rfl (by kernel_rfl) (by kernel_rfl) (by kernel_rfl) (fun _ _ _ h => h) (Or.inl ⟨by kernel_rfl, ?_⟩) hHeld ?_
        rotate_left
        · intro w' hSw
          (try dsimp only at hSw)
          go_simp
          try with_reducible rfl
        (try simp only [Act.put, List.setIfInBounds_toArray, List.set_cons_zero, List.set_cons_succ])
        refine takeH 4 (some 60) (v := ?_) rfl rfl (by kernel_rfl) (by kernel_rfl) (by kernel_rfl) (fun _ _ _ h => h) (Or.inl ⟨by kernel_rfl, ?_⟩) hHeld ?_
        rotate_left
        · intro w' hSw
          (try dsimp only at hSw)
          go_simp
          try with_reducible rfl
        (try simp only [Act.put, List.setIfInBounds_toArray, List.set_cons_zero, List.set_cons_succ])
        refine callH 5 (some 61) (f := 27) (args := #[.agg #[.int .i64 (ci : Nat), .int .i64 (cj : Nat)], .agg #[.int .i64 (xi : Nat), .int .i64 (xj : Nat)]]) rfl rfl (by kernel_rfl) (by kernel_rfl) (by kernel_rfl) ?_
        refine (HAH.out _ (btr hW ((Below.refl _ wr).drew))).mono ?_; rintro e z1 ⟨rfl, gz1⟩; have hz1 := btr ((Below.refl _ wr).drew) gz1; clear gz1
        have hHeld1 := HSS.out _ hz1
        refine ⟨_, rfl, hHeld1, ?_⟩
        (try simp only [Act.put, List.setIfInBounds_toArray, List.set_cons_zero, List.set_cons_succ])
        refine takeH 6 (some 62) (v := ?_) rfl rfl (by kernel_rfl) (by kernel_rfl) (by kernel_rfl) (fun _ _ _ h => h) (Or.inl ⟨by kernel_rfl, ?_⟩) hHeld1 ?_
        rotate_left
        · intro w' hSw
          (try dsimp only at hSw)
          go_simp
          try with_reducible rfl
        (try simp only [Act.put, List.setIfInBounds_toArray, List.set_cons_zero, List.set_cons_succ])
        refine takeH 7 (some 63) (v := ?_) rfl rfl (by kernel_rfl) (by kernel_rfl) (by kernel_rfl) (fun _ _ _ h => h) (Or.inl ⟨by kernel_rfl, ?_⟩) hHeld1 ?_
        rotate_left
        · intro w' hSw
          (try dsimp only at hSw)
          go_simp
          try with_reducible rfl
        (try simp only [Act.put, List.setIfInBounds_toArray, List.set_cons_zero, List.set_cons_succ])
        refine takeH 8 (some 64) (v := undef) rfl rfl (by kernel_rfl) (by kernel_rfl) (by kernel_rfl) (fun _ _ _ h => h) (Or.inr ⟨by kernel_rfl, rfl⟩) hHeld1 ?_
        (try simp only [Act.put, List.setIfInBounds_toArray, List.set_cons_zero, List.set_cons_succ])
        refine takeH 9 (some 65) (v := undef) rfl rfl (by kernel_rfl) (by kernel_rfl) (by kernel_rfl) (fun _ _ _ h => h) (Or.inr ⟨by kernel_rfl, rfl⟩) hHeld1 ?_
        (try simp only [Act.put, List.setIfInBounds_toArray, List.set_cons_zero, List.set_cons_succ])
        refine takeH 10 (some 66) (v := undef) rfl rfl (by kernel_rfl) (by kernel_rfl) (by kernel_rfl) (fun _ _ _ h => h) (Or.inr ⟨by kernel_rfl, rfl⟩) hHeld1 ?_
        (try simp only [Act.put, List.setIfInBounds_toArray, List.set_cons_zero, List.set_cons_succ])
        refine takeH 11 (some 67) (v := undef) rfl rfl (by kernel_rfl) (by kernel_rfl) (by kernel_rfl) (fun _ _ _ h => h) (Or.inr ⟨by kernel_rfl, rfl⟩) hHeld1 ?_
        (try simp only [Act.put, List.setIfInBounds_toArray, List.set_cons_zero, List.set_cons_succ])
        refine takeH 12 (some 68) (v := undef) rfl rfl (by kernel_rfl) (by kernel_rfl) (by kernel_rfl) (fun _ _ _ h => h) (Or.inr ⟨by kernel_rfl, rfl⟩) hHeld1 ?_
        (try simp only [Act.put, List.setIfInBounds_toArray, List.set_cons_zero, List.set_cons_succ])
        refine takeH 13 (some 69) (v := undef) rfl rfl (by kernel_rfl) (by kernel_rfl) (by kernel_rfl) (fun _ _ _ h => h) (Or.inr ⟨by kernel_rfl, rfl⟩) hHeld1 ?_
        (try simp only [Act.put, List.setIfInBounds_toArray, List.set_cons_zero, List.set_cons_succ])
        refine takeH 14 (some 70) (v := undef) rfl rfl (by kernel_rfl) (by kernel_rfl) (by kernel_rfl) (fun _ _ _ h => h) (Or.inr ⟨by kernel_rfl, rfl⟩) hHeld1 ?_
        (try simp only [Act.put, List.setIfInBounds_toArray, List.set_cons_zero, List.set_cons_succ])
        refine takeH 15 (some 71) (v := ?_) rfl rfl (by kernel_rfl) (by kernel_rfl) (by kernel_rfl) (fun _ _ _ h => h) (Or.inl ⟨by kernel_rfl, ?_⟩) hHeld1 ?_
        rotate_left
        · intro w' hSw
          (try dsimp only at hSw)
          go_simp
          try with_reducible rfl
        (try simp only [Act.put, List.setIfInBounds_toArray, List.set_cons_zero, List.set_cons_succ])
        refine takeH 16 (some 72) (v := ?_) rfl rfl (by kernel_rfl) (by kernel_rfl) (by kernel_rfl) (fun _ _ _ h => h) (Or.inl ⟨by kernel_rfl, ?_⟩) hHeld1 ?_
        rotate_left
        · intro w' hSw
          (try dsimp only at hSw)
          go_simp
          try with_reducible rfl
        (try simp only [Act.put, List.setIfInBounds_toArray, List.set_cons_zero, List.set_cons_succ])
        refine takeH 17 (some 73) (v := ?_) rfl rfl (by kernel_rfl) (by kernel_rfl) (by kernel_rfl) (fun _ _ _ h => h) (Or.inl ⟨by kernel_rfl, ?_⟩) hHeld1 ?_
        rotate_left
        · intro w' hSw
          (try dsimp only at hSw)
          go_simp
          try with_reducible rfl
        (try simp only [Act.put, List.setIfInBounds_toArray, List.set_cons_zero, List.set_cons_succ])
        refine takeH 18 (some 74) (v := ?_) rfl rfl (by kernel_rfl) (by kernel_rfl) (by kernel_rfl) (fun _ _ _ h => h) (Or.inl ⟨by kernel_rfl, ?_⟩) hHeld1 ?_
        rotate_left
        · intro w' hSw
          (try dsimp only at hSw)
          go_simp
          try with_reducible rfl
        (try simp only [Act.put, List.setIfInBounds_toArray, List.set_cons_zero, List.set_cons_succ])
        refine takeH 19 (some 75) (v := ?_) rfl rfl (by kernel_rfl) (by kernel_rfl) (by kernel_rfl) (fun _ _ _ h => h) (Or.inl ⟨by kernel_rfl, ?_⟩) hHeld1 ?_
        rotate_left
        · intro w' hSw
          (try dsimp only at hSw)
          go_simp
          try with_reducible rfl
        (try simp only [Act.put, List.setIfInBounds_toArray, List.set_cons_zero, List.set_cons_succ])
        refine takeH 20 (some 76) (v := ?_) rfl rfl (by kernel_rfl) (by kernel_rfl) (by kernel_rfl) (fun _ _ _ h => h) (Or.inl ⟨by kernel_rfl, ?_⟩) hHeld1 ?_
        rotate_left
        · intro w' hSw
          (try dsimp only at hSw)
          go_simp
          try with_reducible rfl
        (try simp only [Act.put, List.setIfInBounds_toArray, List.set_cons_zero, List.set_cons_succ])
        refine takeH 21 (some 77) (v := ?_) rfl rfl (by kernel_rfl) (by kernel_rfl) (by kernel_rfl) (fun _ _ _ h => h) (Or.inl ⟨by kernel_rfl, ?_⟩) hHeld1 ?_
        rotate_left
        · intro w' hSw
          (try dsimp only at hSw)
          go_simp
          try with_reducible rfl
        (try simp only [Act.put, List.setIfInBounds_toArray, List.set_cons_zero, List.set_cons_succ])
        refine takeH 23 (some 79) (v := ?_) rfl rfl (by kernel_rfl) (by kernel_rfl) (by kernel_rfl) (fun _ _ _ h => h) (Or.inl ⟨by kernel_rfl, ?_⟩) hHeld1 ?_
        rotate_left
        · intro w' hSw
          (try dsimp only at hSw)
          go_simp
          try with_reducible rfl
        (try simp only [Act.put, List.setIfInBounds_toArray, List.set_cons_zero, List.set_cons_succ])
        refine takeH 24 (some 80) (v := ?_) rfl rfl (by kernel_rfl) (by kernel_rfl) (by kernel_rfl) (fun _ _ _ h => h) (Or.inl ⟨by kernel_rfl, ?_⟩) hHeld1 ?_
        rotate_left
        · intro w' hSw
          (try dsimp only at hSw)
          go_simp
          try with_reducible rfl
        (try simp only [Act.put, List.setIfInBounds_toArray, List.set_cons_zero, List.set_cons_succ])
        refine takeH 25 (some 81) (v := ?_) rfl rfl (by kernel_rfl) (by kernel_rfl) (by kernel_rfl) (fun _ _ _ h => h) (Or.inl ⟨by kernel_rfl, ?_⟩) hHeld1 ?_
        rotate_left
        · intro w' hSw
          (try dsimp only at hSw)
          go_simp
          try with_reducible rfl
        (try simp only [Act.put, List.setIfInBounds_toArray, List.set_cons_zero, List.set_cons_succ])
        refine takeH 26 (some 82) (v := ?_) rfl rfl (by kernel_rfl) (by kernel_rfl) (by kernel_rfl) (fun _ _ _ h => h) (Or.inl ⟨by kernel_rfl, ?_⟩) hHeld1 ?_
        rotate_left
        · intro w' hSw
          (try dsimp only at hSw)
          go_simp
          try with_reducible rfl
        (try simp only [Act.put, List.setIfInBounds_toArray, List.set_cons_zero, List.set_cons_succ])
        refine callH 22 (some 78) (f := 8) (args := #[.slice a n c, .agg #[.int .i64 (xi : Nat), .int .i64 (xj : Nat)]]) rfl rfl (by kernel_rfl) (by kernel_rfl) (by kernel_rfl) ?_
        refine (HCP.out _ (btr hW hz1)).mono ?_; rintro e z2 ⟨rfl, gz2⟩; have hz2 := btr hz1 gz2; clear gz2
        have hHeld12 := HSS.out _ hz2
        refine ⟨_, rfl, hHeld12, ?_⟩
        (try simp only [Act.put, List.setIfInBounds_toArray, List.set_cons_zero, List.set_cons_succ])
        refine takeH 27 (some 83) (v := ?_) rfl rfl (by kernel_rfl) (by kernel_rfl) (by kernel_rfl) (fun _ _ _ h => h) (Or.inl ⟨by kernel_rfl, ?_⟩) hHeld12 ?_
        rotate_left
        · intro w' hSw
          (try dsimp only at hSw)
          go_simp
          try with_reducible rfl
        (try simp only [Act.put, List.setIfInBounds_toArray, List.set_cons_zero, List.set_cons_succ])
        refine takeH 28 (some 84) (v := ?_) rfl rfl (by kernel_rfl) (by kernel_rfl) (by kernel_rfl) (fun _ _ _ h => h) (Or.inl ⟨by kernel_rfl, ?_⟩) hHeld12 ?_
        rotate_left
        · intro w' hSw
          (try dsimp only at hSw)
          go_simp
          try with_reducible rfl
        (try simp only [Act.put, List.setIfInBounds_toArray, List.set_cons_zero, List.set_cons_succ])
        refine wpAnyH_done (by kernel_rfl) ?_ _
        go_wp2_with fail
        go_roundw
        case rel => exact ⟨i + 1, by omega, by first | rfl | go_num, btr hbr hz2⟩
        case measure => simp [intOf]; omega
      | false =>
        have hxl : (xi, xj) = (li, lj) := hxo.resolve_left (by simp)
        have xe0 : xi = li := congrArg Prod.fst hxl
        have xe1 : xj = lj := congrArg Prod.snd hxl
        have HLX := HLC
        rw [← xe0, ← xe1] at HLX
        clear hxo hxl xe0 xe1
        go_wp2_with fail
        refine wp_region_held (S := fun w' => w'.cell? ⟨w2.heap.size, 0, none⟩ = some (.int .i64 (ci : Nat)) ∧ w'.cell? ⟨w2.heap.size, 1, none⟩ = some (.int .i64 (cj : Nat)) ∧ w'.cell? ⟨x4.heap.size, i * 2, none⟩ = some (.int .i64 (xi : Nat)) ∧ w'.cell? ⟨x4.heap.size, i * 2 + 1, none⟩ = some (.int .i64 (xj : Nat))) (by kernel_rfl) ?_
        change wpAnyH _ _ _ _ _ _ _ _ (World.drew _)
        have hHeld : (fun w' => w'.cell? ⟨w2.heap.size, 0, none⟩ = some (.int .i64 (ci : Nat)) ∧ w'.cell? ⟨w2.heap.size, 1, none⟩ = some (.int .i64 (cj : Nat)) ∧ w'.cell? ⟨x4.heap.size, i * 2, none⟩ = some (.int .i64 (xi : Nat)) ∧ w'.cell? ⟨x4.heap.size, i * 2 + 1, none⟩ = some (.int .i64 (xj : Nat))) (World.drew wr) := ⟨d0, d1, t0, t1⟩
        refine takeH 0 (some 56) (v := ?_) rfl rfl (by kernel_rfl) (by kernel_rfl) (by kernel_rfl) (fun _ _ _ h => h) (Or.inl ⟨by kernel_rfl, ?_⟩) hHeld ?_
        rotate_left
        · intro w' hSw
          (try dsimp only at hSw)
          go_simp
          try with_reducible rfl
        (try simp only [Act.put, List.setIfInBounds_toArray, List.set_cons_zero, List.set_cons_succ])
        refine takeH 1 (some 57) (v := ?_) rfl rfl (by kernel_rfl) (by kernel_rfl) (by kernel_rfl) (fun _ _ _ h => h) (Or.inl ⟨by kernel_rfl, ?_⟩) hHeld ?_
        rotate_left
        · intro w' hSw
          (try dsimp only at hSw)
          go_simp
          try with_reducible rfl
        (try simp only [Act.put, List.setIfInBounds_toArray, List.set_cons_zero, List.set_cons_succ])
        refine takeH 2 (some 58) (v := ?_) rfl rfl (by kernel_rfl) (by kernel_rfl) (by kernel_rfl) (fun _ _ _ h => h) (Or.inl ⟨by kernel_rfl, ?_⟩) hHeld ?_
        rotate_left
        · intro w' hSw
          (try dsimp only at hSw)
          go_simp
          try with_reducible rfl
        (try simp only [Act.put, List.setIfInBounds_toArray, List.set_cons_zero, List.set_cons_succ])
        refine takeH 3 (some 59) (v := ?_) rfl rfl (by kernel_rfl) (by kernel_rfl) (by kernel_rfl) (fun _ _ _ h => h) (Or.inl ⟨by kernel_rfl, ?_⟩) hHeld ?_
        rotate_left
        · intro w' hSw
          (try dsimp only at hSw)
          go_simp
          try with_reducible rfl
        (try simp only [Act.put, List.setIfInBounds_toArray, List.set_cons_zero, List.set_cons_succ])
        refine takeH 4 (some 60) (v := ?_) rfl rfl (by kernel_rfl) (by kernel_rfl) (by kernel_rfl) (fun _ _ _ h => h) (Or.inl ⟨by kernel_rfl, ?_⟩) hHeld ?_
        rotate_left
        · intro w' hSw
          (try dsimp only at hSw)
          go_simp
          try with_reducible rfl
        (try simp only [Act.put, List.setIfInBounds_toArray, List.set_cons_zero, List.set_cons_succ])
        refine callH 5 (some 61) (f := 27) (args := #[.agg #[.int .i64 (ci : Nat), .int .i64 (cj : Nat)], .agg #[.int .i64 (xi : Nat), .int .i64 (xj : Nat)]]) rfl rfl (by kernel_rfl) (by kernel_rfl) (by kernel_rfl) ?_
        refine (HAH.out _ (btr hW ((Below.refl _ wr).drew))).mono ?_; rintro e z1 ⟨rfl, gz1⟩; have hz1 := btr ((Below.refl _ wr).drew) gz1; clear gz1
        have hHeld1 := HSS.out _ hz1
        refine ⟨_, rfl, hHeld1, ?_⟩
        (try simp only [Act.put, List.setIfInBounds_toArray, List.set_cons_zero, List.set_cons_succ])
        refine takeH 6 (some 62) (v := ?_) rfl rfl (by kernel_rfl) (by kernel_rfl) (by kernel_rfl) (fun _ _ _ h => h) (Or.inl ⟨by kernel_rfl, ?_⟩) hHeld1 ?_
        rotate_left
        · intro w' hSw
          (try dsimp only at hSw)
          go_simp
          try with_reducible rfl
        (try simp only [Act.put, List.setIfInBounds_toArray, List.set_cons_zero, List.set_cons_succ])
        refine takeH 7 (some 63) (v := ?_) rfl rfl (by kernel_rfl) (by kernel_rfl) (by kernel_rfl) (fun _ _ _ h => h) (Or.inl ⟨by kernel_rfl, ?_⟩) hHeld1 ?_
        rotate_left
        · intro w' hSw
          (try dsimp only at hSw)
          go_simp
          try with_reducible rfl
        (try simp only [Act.put, List.setIfInBounds_toArray, List.set_cons_zero, List.set_cons_succ])
        refine takeH 8 (some 64) (v := ?_) rfl rfl (by kernel_rfl) (by kernel_rfl) (by kernel_rfl) (fun _ _ _ h => h) (Or.inl ⟨by kernel_rfl, ?_⟩) hHeld1 ?_
        rotate_left
        · intro w' hSw
          (try dsimp only at hSw)
          go_simp
          try with_reducible rfl
        (try simp only [Act.put, List.setIfInBounds_toArray, List.set_cons_zero, List.set_cons_succ])
        refine takeH 9 (some 65) (v := ?_) rfl rfl (by kernel_rfl) (by kernel_rfl) (by kernel_rfl) (fun _ _ _ h => h) (Or.inl ⟨by kernel_rfl, ?_⟩) hHeld1 ?_
        rotate_left
        · intro w' hSw
          (try dsimp only at hSw)
          go_simp
          try with_reducible rfl
        (try simp only [Act.put, List.setIfInBounds_toArray, List.set_cons_zero, List.set_cons_succ])
        refine takeH 10 (some 66) (v := ?_) rfl rfl (by kernel_rfl) (by kernel_rfl) (by kernel_rfl) (fun _ _ _ h => h) (Or.inl ⟨by kernel_rfl, ?_⟩) hHeld1 ?_
        rotate_left
        · intro w' hSw
          (try dsimp only at hSw)
          go_simp
          try with_reducible rfl
        (try simp only [Act.put, List.setIfInBounds_toArray, List.set_cons_zero, List.set_cons_succ])
        refine takeH 11 (some 67) (v := ?_) rfl rfl (by kernel_rfl) (by kernel_rfl) (by kernel_rfl) (fun _ _ _ h => h) (Or.inl ⟨by kernel_rfl, ?_⟩) hHeld1 ?_
        rotate_left
        · intro w' hSw
          (try dsimp only at hSw)
          go_simp
          try with_reducible rfl
        (try simp only [Act.put, List.setIfInBounds_toArray, List.set_cons_zero, List.set_cons_succ])
        refine takeH 12 (some 68) (v := ?_) rfl rfl (by kernel_rfl) (by kernel_rfl) (by kernel_rfl) (fun _ _ _ h => h) (Or.inl ⟨by kernel_rfl, ?_⟩) hHeld1 ?_
        rotate_left
        · intro w' hSw
          (try dsimp only at hSw)
          go_simp
          try with_reducible rfl
        (try simp only [Act.put, List.setIfInBounds_toArray, List.set_cons_zero, List.set_cons_succ])
        refine callH 13 (some 69) (f := 12) (args := #[.slice a n c]) rfl rfl (by kernel_rfl) (by kernel_rfl) (by kernel_rfl) ?_
        refine (HLX.out _ (btr hW hz1)).mono ?_; rintro e z2 ⟨rfl, gz2⟩; have hz2 := btr hz1 gz2; clear gz2
        have hHeld12 := HSS.out _ hz2
        refine ⟨_, rfl, hHeld12, ?_⟩
        (try simp only [Act.put, List.setIfInBounds_toArray, List.set_cons_zero, List.set_cons_succ])
        refine takeH 14 (some 70) (v := ?_) rfl rfl (by kernel_rfl) (by kernel_rfl) (by kernel_rfl) (fun _ _ _ h => h) (Or.inl ⟨by kernel_rfl, ?_⟩) hHeld12 ?_
        rotate_left
        · intro w' hSw
          (try dsimp only at hSw)
          go_simp
          try with_reducible rfl
        (try simp only [Act.put, List.setIfInBounds_toArray, List.set_cons_zero, List.set_cons_succ])
        refine takeH 15 (some 71) (v := ?_) rfl rfl (by kernel_rfl) (by kernel_rfl) (by kernel_rfl) (fun _ _ _ h => h) (Or.inl ⟨by kernel_rfl, ?_⟩) hHeld12 ?_
        rotate_left
        · intro w' hSw
          (try dsimp only at hSw)
          go_simp
          try with_reducible rfl
        (try simp only [Act.put, List.setIfInBounds_toArray, List.set_cons_zero, List.set_cons_succ])
        refine takeH 16 (some 72) (v := ?_) rfl rfl (by kernel_rfl) (by kernel_rfl) (by kernel_rfl) (fun _ _ _ h => h) (Or.inl ⟨by kernel_rfl, ?_⟩) hHeld12 ?_
        rotate_left
        · intro w' hSw
          (try dsimp only at hSw)
          go_simp
          try with_reducible rfl
        (try simp only [Act.put, List.setIfInBounds_toArray, List.set_cons_zero, List.set_cons_succ])
        refine takeH 17 (some 73) (v := ?_) rfl rfl (by kernel_rfl) (by kernel_rfl) (by kernel_rfl) (fun _ _ _ h => h) (Or.inl ⟨by kernel_rfl, ?_⟩) hHeld12 ?_
        rotate_left
        · intro w' hSw
          (try dsimp only at hSw)
          go_simp
          try with_reducible rfl
        (try simp only [Act.put, List.setIfInBounds_toArray, List.set_cons_zero, List.set_cons_succ])
        refine takeH 18 (some 74) (v := ?_) rfl rfl (by kernel_rfl) (by kernel_rfl) (by kernel_rfl) (fun _ _ _ h => h) (Or.inl ⟨by kernel_rfl, ?_⟩) hHeld12 ?_
        rotate_left
        · intro w' hSw
          (try dsimp only at hSw)
          go_simp
          try with_reducible rfl
        (try simp only [Act.put, List.setIfInBounds_toArray, List.set_cons_zero, List.set_cons_succ])
        refine takeH 19 (some 75) (v := ?_) rfl rfl (by kernel_rfl) (by kernel_rfl) (by kernel_rfl) (fun _ _ _ h => h) (Or.inl ⟨by kernel_rfl, ?_⟩) hHeld12 ?_
        rotate_left
        · intro w' hSw
          (try dsimp only at hSw)
          go_simp
          try with_reducible rfl
        (try simp only [Act.put, List.setIfInBounds_toArray, List.set_cons_zero, List.set_cons_succ])
        refine takeH 20 (some 76) (v := ?_) rfl rfl (by kernel_rfl) (by kernel_rfl) (by kernel_rfl) (fun _ _ _ h => h) (Or.inl ⟨by kernel_rfl, ?_⟩) hHeld12 ?_
        rotate_left
        · intro w' hSw
          (try dsimp only at hSw)
          go_simp
          try with_reducible rfl
        (try simp only [Act.put, List.setIfInBounds_toArray, List.set_cons_zero, List.set_cons_succ])
        refine takeH 21 (some 77) (v := ?_) rfl rfl (by kernel_rfl) (by kernel_rfl) (by kernel_rfl) (fun _ _ _ h => h) (Or.inl ⟨by kernel_rfl, ?_⟩) hHeld12 ?_
        rotate_left
        · intro w' hSw
          (try dsimp only at hSw)
          go_simp
          try with_reducible rfl
        (try simp only [Act.put, List.setIfInBounds_toArray, List.set_cons_zero, List.set_cons_succ])
        refine takeH 23 (some 79) (v := ?_) rfl rfl (by kernel_rfl) (by kernel_rfl) (by kernel_rfl) (fun _ _ _ h => h) (Or.inl ⟨by kernel_rfl, ?_⟩) hHeld12 ?_
        rotate_left
        · intro w' hSw
          (try dsimp only at hSw)
          go_simp
          try with_reducible rfl
        (try simp only [Act.put, List.setIfInBounds_toArray, List.set_cons_zero, List.set_cons_succ])
        refine takeH 24 (some 80) (v := ?_) rfl rfl (by kernel_rfl) (by kernel_rfl) (by kernel_rfl) (fun _ _ _ h => h) (Or.inl ⟨by kernel_rfl, ?_⟩) hHeld12 ?_
        rotate_left
        · intro w' hSw
          (try dsimp only at hSw)
          go_simp
          try with_reducible rfl
        (try simp only [Act.put, List.setIfInBounds_toArray, List.set_cons_zero, List.set_cons_succ])
        refine takeH 25 (some 81) (v := ?_) rfl rfl (by kernel_rfl) (by kernel_rfl) (by kernel_rfl) (fun _ _ _ h => h) (Or.inl ⟨by kernel_rfl, ?_⟩) hHeld12 ?_
        rotate_left
        · intro w' hSw
          (try dsimp only at hSw)
          go_simp
          try with_reducible rfl
        (try simp only [Act.put, List.setIfInBounds_toArray, List.set_cons_zero, List.set_cons_succ])
        refine takeH 26 (some 82) (v := ?_) rfl rfl (by kernel_rfl) (by kernel_rfl) (by kernel_rfl) (fun _ _ _ h => h) (Or.inl ⟨by kernel_rfl, ?_⟩) hHeld12 ?_
        rotate_left
        · intro w' hSw
          (try dsimp only at hSw)
          go_simp
          try with_reducible rfl
        (try simp only [Act.put, List.setIfInBounds_toArray, List.set_cons_zero, List.set_cons_succ])
        refine callH 22 (some 78) (f := 8) (args := #[.slice a n c, .agg #[.int .i64 (xi : Nat), .int .i64 (xj : Nat)]]) rfl rfl (by kernel_rfl) (by kernel_rfl) (by kernel_rfl) ?_
        refine (HCP.out _ (btr hW hz2)).mono ?_; rintro e z3 ⟨rfl, gz3⟩; have hz3 := btr hz2 gz3; clear gz3
        have hHeld123 := HSS.out _ hz3
        refine ⟨_, rfl, hHeld123, ?_⟩
        (try simp only [Act.put, List.setIfInBounds_toArray, List.set_cons_zero, List.set_cons_succ])
        refine takeH 27 (some 83) (v := ?_) rfl rfl (by kernel_rfl) (by kernel_rfl) (by kernel_rfl) (fun _ _ _ h => h) (Or.inl ⟨by kernel_rfl, ?_⟩) hHeld123 ?_
        rotate_left
        · intro w' hSw
          (try dsimp only at hSw)
          go_simp
          try with_reducible rfl
        (try simp only [Act.put, List.setIfInBounds_toArray, List.set_cons_zero, List.set_cons_succ])
        refine takeH 28 (some 84) (v := ?_) rfl rfl (by kernel_rfl) (by kernel_rfl) (by kernel_rfl) (fun _ _ _ h => h) (Or.inl ⟨by kernel_rfl, ?_⟩) hHeld123 ?_
        rotate_left
        · intro w' hSw
          (try dsimp only at hSw)
          go_simp
          try with_reducible rfl
        (try simp only [Act.put, List.setIfInBounds_toArray, List.set_cons_zero, List.set_cons_succ])
        refine wpAnyH_done (by kernel_rfl) ?_ _
        go_wp2_with fail
        go_roundw
        case rel => exact ⟨i + 1, by omega, by first | rfl | go_num, btr hbr hz3⟩
        case measure => simp [intOf]; omega
    · obtain rfl : i = 4 := by omega
      obtain ⟨wq, hwq⟩ : ∃ y, y = wr := ⟨_, rfl⟩
      subst hwq
      go_wp2_with fail
      go_loopw [11] (fun iv wr => ∃ i : Nat, i ≤ 3 ∧ iv = .int .i64 (i : Nat) ∧ Below w13.heap.size w13 wr) (fun iv _ => 3 - (intOf iv).toNat)
      case atStart => exact ⟨0, by omega, rfl, hbr⟩
      case round =>
        obtain ⟨i, hi3, rfl, hbr⟩ := hrel
        by_cases hlt : i < 3
        · have hin : i < 3 := hlt
          obtain ⟨x, hx⟩ : ∃ x, [(b1i, b1j), (b2i, b2j), (b3i, b3j)][i]? = some x := ⟨[(b1i, b1j), (b2i, b2j), (b3i, b3j)][i]'(by simpa using hlt), List.getElem?_eq_getElem _⟩
          have hxx := HBK.out x (List.mem_of_getElem? hx)
          obtain ⟨t0, t1⟩ := HB.out.get0 hbr hx
          obtain ⟨d0, d1, -, -⟩ := row2 ((hbr.block _ (heap_lt HQ.out)).trans HQ.out)
          have hW := btr H13.out hbr
          have HSS : Hid (∀ w' : World, Below wr.heap.size wr w' → (fun w' => w'.cell? ⟨w2.heap.size, 0, none⟩ = some (.int .i64 (ci : Nat)) ∧ w'.cell? ⟨w2.heap.size, 1, none⟩ = some (.int .i64 (cj : Nat)) ∧ w'.cell? ⟨y3.heap.size, i * 2, none⟩ = some (.int .i64 (x.1 : Nat)) ∧ w'.cell? ⟨y3.heap.size, i * 2 + 1, none⟩ = some (.int .i64 (x.2 : Nat))) w') := fun w' hb => by
            obtain ⟨e0, e1⟩ := HB.out.get0 (btr hbr hb) hx
            obtain ⟨f0, f1, -, -⟩ := row2 (((btr hbr hb).block _ (heap_lt HQ.out)).trans HQ.out)
            exact ⟨f0, f1, e0, e1⟩
          have HCP := Lib.hid (fun (w' : World) (hb : Below w1.heap.size w1 w') => HCX.out x w' hxx.1 hb)
          have hxo := hxx.2
          obtain ⟨xi, xj⟩ := x
          simp only at t0 t1 HSS HCP
          have hAH : ∀ w' : World, Below w1.heap.size w1 w' → Calls Try.prog 27 #[.agg #[.int .i64 (xi : Nat), .int .i64 (xj : Nat)], .agg #[.int .i64 (ci : Nat), .int .i64 (cj : Nat)]] w' fun e w2 => e = .returned (.bool (aheadP (xi, xj) (ci, cj))) ∧ Below w'.heap.size w' w2 := fun w' hb => HAC.out (xi, xj) (ci, cj) w' hb
          obtain ⟨b, hbA⟩ : ∃ b, aheadP (xi, xj) (ci, cj) = b := ⟨_, rfl⟩
          rw [hbA] at hAH hxo
          have HAH := Lib.hid hAH
          clear hxx hx hAH hbA
          cases b with
          | true =>
            clear hxo
            go_wp2_with fail
            refine wp_region_held (S := fun w' => w'.cell? ⟨w2.heap.size, 0, none⟩ = some (.int .i64 (ci : Nat)) ∧ w'.cell? ⟨w2.heap.size, 1, none⟩ = some (.int .i64 (cj : Nat)) ∧ w'.cell? ⟨y3.heap.size, i * 2, none⟩ = some (.int .i64 (xi : Nat)) ∧ w'.cell? ⟨y3.heap.size, i * 2 + 1, none⟩ = some (.int .i64 (xj : Nat))) (by kernel_rfl) ?_
            change wpAnyH _ _ _ _ _ _ _ _ (World.drew _)
            have hHeld : (fun w' => w'.cell? ⟨w2.heap.size, 0, none⟩ = some (.int .i64 (ci : Nat)) ∧ w'.cell? ⟨w2.heap.size, 1, none⟩ = some (.int .i64 (cj : Nat)) ∧ w'.cell? ⟨y3.heap.size, i * 2, none⟩ = some (.int .i64 (xi : Nat)) ∧ w'.cell? ⟨y3.heap.size, i * 2 + 1, none⟩ = some (.int .i64 (xj : Nat))) (World.drew wr) := ⟨d0, d1, t0, t1⟩
            refine takeH 0 (some 91) (v := ?_) rfl rfl (by kernel_rfl) (by kernel_rfl) (by kernel_rfl) (fun _ _ _ h => h) (Or.inl ⟨by kernel_rfl, ?_⟩) hHeld ?_
            rotate_left
            · intro w' hSw
              (try dsimp only at hSw)
              go_simp
              try with_reducible rfl
            (try simp only [Act.put, List.setIfInBounds_toArray, List.set_cons_zero, List.set_cons_succ])
            refine takeH 1 (some 92) (v := ?_) rfl rfl (by kernel_rfl) (by kernel_rfl) (by kernel_rfl) (fun _ _ _ h => h) (Or.inl ⟨by kernel_rfl, ?_⟩) hHeld ?_
            rotate_left
            · intro w' hSw
              (try dsimp only at hSw)
              go_simp
              try with_reducible rfl
            (try simp only [Act.put, List.setIfInBounds_toArray, List.set_cons_zero, List.set_cons_succ])
            refine takeH 2 (some 93) (v := ?_) rfl rfl (by kernel_rfl) (by kernel_rfl) (by kernel_rfl) (fun _ _ _ h => h) (Or.inl ⟨by kernel_rfl, ?_⟩) hHeld ?_
            rotate_left
            · intro w' hSw
              (try dsimp only at hSw)
              go_simp
              try with_reducible rfl
            (try simp only [Act.put, List.setIfInBounds_toArray, List.set_cons_zero, List.set_cons_succ])
            refine takeH 3 (some 94) (v := ?_) rfl rfl (by kernel_rfl) (by kernel_rfl) (by kernel_rfl) (fun _ _ _ h => h) (Or.inl ⟨by kernel_rfl, ?_⟩) hHeld ?_
            rotate_left
            · intro w' hSw
              (try dsimp only at hSw)
              go_simp
              try with_reducible rfl
            (try simp only [Act.put, List.setIfInBounds_toArray, List.set_cons_zero, List.set_cons_succ])
            refine takeH 4 (some 95) (v := ?_) rfl rfl (by kernel_rfl) (by kernel_rfl) (by kernel_rfl) (fun _ _ _ h => h) (Or.inl ⟨by kernel_rfl, ?_⟩) hHeld ?_
            rotate_left
            · intro w' hSw
              (try dsimp only at hSw)
              go_simp
              try with_reducible rfl
            (try simp only [Act.put, List.setIfInBounds_toArray, List.set_cons_zero, List.set_cons_succ])
            refine callH 5 (some 96) (f := 27) (args := #[.agg #[.int .i64 (xi : Nat), .int .i64 (xj : Nat)], .agg #[.int .i64 (ci : Nat), .int .i64 (cj : Nat)]]) rfl rfl (by kernel_rfl) (by kernel_rfl) (by kernel_rfl) ?_
            refine (HAH.out _ (btr hW ((Below.refl _ wr).drew))).mono ?_; rintro e z1 ⟨rfl, gz1⟩; have hz1 := btr ((Below.refl _ wr).drew) gz1; clear gz1
            have hHeld1 := HSS.out _ hz1
            refine ⟨_, rfl, hHeld1, ?_⟩
            (try simp only [Act.put, List.setIfInBounds_toArray, List.set_cons_zero, List.set_cons_succ])
            refine takeH 6 (some 97) (v := ?_) rfl rfl (by kernel_rfl) (by kernel_rfl) (by kernel_rfl) (fun _ _ _ h => h) (Or.inl ⟨by kernel_rfl, ?_⟩) hHeld1 ?_
            rotate_left
            · intro w' hSw
              (try dsimp only at hSw)
              go_simp
              try with_reducible rfl
            (try simp only [Act.put, List.setIfInBounds_toArray, List.set_cons_zero, List.set_cons_succ])
            refine takeH 7 (some 98) (v := ?_) rfl rfl (by kernel_rfl) (by kernel_rfl) (by kernel_rfl) (fun _ _ _ h => h) (Or.inl ⟨by kernel_rfl, ?_⟩) hHeld1 ?_
            rotate_left
            · intro w' hSw
              (try dsimp only at hSw)
              go_simp
              try with_reducible rfl
            (try simp only [Act.put, List.setIfInBounds_toArray, List.set_cons_zero, List.set_cons_succ])
            refine takeH 8 (some 99) (v := undef) rfl rfl (by kernel_rfl) (by kernel_rfl) (by kernel_rfl) (fun _ _ _ h => h) (Or.inr ⟨by kernel_rfl, rfl⟩) hHeld1 ?_
            (try simp only [Act.put, List.setIfInBounds_toArray, List.set_cons_zero, List.set_cons_succ])
            refine takeH 9 (some 100) (v := undef) rfl rfl (by kernel_rfl) (by kernel_rfl) (by kernel_rfl) (fun _ _ _ h => h) (Or.inr ⟨by kernel_rfl, rfl⟩) hHeld1 ?_
            (try simp only [Act.put, List.setIfInBounds_toArray, List.set_cons_zero, List.set_cons_succ])
            refine takeH 10 (some 101) (v := undef) rfl rfl (by kernel_rfl) (by kernel_rfl) (by kernel_rfl) (fun _ _ _ h => h) (Or.inr ⟨by kernel_rfl, rfl⟩) hHeld1 ?_
            (try simp only [Act.put, List.setIfInBounds_toArray, List.set_cons_zero, List.set_cons_succ])
            refine takeH 11 (some 102) (v := undef) rfl rfl (by kernel_rfl) (by kernel_rfl) (by kernel_rfl) (fun _ _ _ h => h) (Or.inr ⟨by kernel_rfl, rfl⟩) hHeld1 ?_
            (try simp only [Act.put, List.setIfInBounds_toArray, List.set_cons_zero, List.set_cons_succ])
            refine takeH 12 (some 103) (v := undef) rfl rfl (by kernel_rfl) (by kernel_rfl) (by kernel_rfl) (fun _ _ _ h => h) (Or.inr ⟨by kernel_rfl, rfl⟩) hHeld1 ?_
            (try simp only [Act.put, List.setIfInBounds_toArray, List.set_cons_zero, List.set_cons_succ])
            refine takeH 13 (some 104) (v := undef) rfl rfl (by kernel_rfl) (by kernel_rfl) (by kernel_rfl) (fun _ _ _ h => h) (Or.inr ⟨by kernel_rfl, rfl⟩) hHeld1 ?_
            (try simp only [Act.put, List.setIfInBounds_toArray, List.set_cons_zero, List.set_cons_succ])
            refine takeH 14 (some 105) (v := ?_) rfl rfl (by kernel_rfl) (by kernel_rfl) (by kernel_rfl) (fun _ _ _ h => h) (Or.inl ⟨by kernel_rfl, ?_⟩) hHeld1 ?_
            rotate_left
            · intro w' hSw
              (try dsimp only at hSw)
              go_simp
              try with_reducible rfl
            (try simp only [Act.put, List.setIfInBounds_toArray, List.set_cons_zero, List.set_cons_succ])
            refine takeH 15 (some 106) (v := ?_) rfl rfl (by kernel_rfl) (by kernel_rfl) (by kernel_rfl) (fun _ _ _ h => h) (Or.inl ⟨by kernel_rfl, ?_⟩) hHeld1 ?_
            rotate_left
            · intro w' hSw
              (try dsimp only at hSw)
              go_simp
              try with_reducible rfl
            (try simp only [Act.put, List.setIfInBounds_toArray, List.set_cons_zero, List.set_cons_succ])
            refine takeH 16 (some 107) (v := ?_) rfl rfl (by kernel_rfl) (by kernel_rfl) (by kernel_rfl) (fun _ _ _ h => h) (Or.inl ⟨by kernel_rfl, ?_⟩) hHeld1 ?_
            rotate_left
            · intro w' hSw
              (try dsimp only at hSw)
              go_simp
              try with_reducible rfl
            (try simp only [Act.put, List.setIfInBounds_toArray, List.set_cons_zero, List.set_cons_succ])
            refine takeH 17 (some 108) (v := ?_) rfl rfl (by kernel_rfl) (by kernel_rfl) (by kernel_rfl) (fun _ _ _ h => h) (Or.inl ⟨by kernel_rfl, ?_⟩) hHeld1 ?_
            rotate_left
            · intro w' hSw
              (try dsimp only at hSw)
              go_simp
              try with_reducible rfl
            (try simp only [Act.put, List.setIfInBounds_toArray, List.set_cons_zero, List.set_cons_succ])
            refine takeH 18 (some 109) (v := ?_) rfl rfl (by kernel_rfl) (by kernel_rfl) (by kernel_rfl) (fun _ _ _ h => h) (Or.inl ⟨by kernel_rfl, ?_⟩) hHeld1 ?_
            rotate_left
            · intro w' hSw
              (try dsimp only at hSw)
              go_simp
              try with_reducible rfl
            (try simp only [Act.put, List.setIfInBounds_toArray, List.set_cons_zero, List.set_cons_succ])
            refine takeH 19 (some 110) (v := ?_) rfl rfl (by kernel_rfl) (by kernel_rfl) (by kernel_rfl) (fun _ _ _ h => h) (Or.inl ⟨by kernel_rfl, ?_⟩) hHeld1 ?_
            rotate_left
            · intro w' hSw
              (try dsimp only at hSw)
              go_simp
              try with_reducible rfl
            (try simp only [Act.put, List.setIfInBounds_toArray, List.set_cons_zero, List.set_cons_succ])
            refine takeH 20 (some 111) (v := ?_) rfl rfl (by kernel_rfl) (by kernel_rfl) (by kernel_rfl) (fun _ _ _ h => h) (Or.inl ⟨by kernel_rfl, ?_⟩) hHeld1 ?_
            rotate_left
            · intro w' hSw
              (try dsimp only at hSw)
              go_simp
              try with_reducible rfl
            (try simp only [Act.put, List.setIfInBounds_toArray, List.set_cons_zero, List.set_cons_succ])
            refine takeH 22 (some 113) (v := ?_) rfl rfl (by kernel_rfl) (by kernel_rfl) (by kernel_rfl) (fun _ _ _ h => h) (Or.inl ⟨by kernel_rfl, ?_⟩) hHeld1 ?_
            rotate_left
            · intro w' hSw
              (try dsimp only at hSw)
              go_simp
              try with_reducible rfl
            (try simp only [Act.put, List.setIfInBounds_toArray, List.set_cons_zero, List.set_cons_succ])
            refine takeH 23 (some 114) (v := ?_) rfl rfl (by kernel_rfl) (by kernel_rfl) (by kernel_rfl) (fun _ _ _ h => h) (Or.inl ⟨by kernel_rfl, ?_⟩) hHeld1 ?_
            rotate_left
            · intro w' hSw
              (try dsimp only at hSw)
              go_simp
              try with_reducible rfl
            (try simp only [Act.put, List.setIfInBounds_toArray, List.set_cons_zero, List.set_cons_succ])
            refine takeH 24 (some 115) (v := ?_) rfl rfl (by kernel_rfl) (by kernel_rfl) (by kernel_rfl) (fun _ _ _ h => h) (Or.inl ⟨by kernel_rfl, ?_⟩) hHeld1 ?_
            rotate_left
            · intro w' hSw
              (try dsimp only at hSw)
              go_simp
              try with_reducible rfl
            (try simp only [Act.put, List.setIfInBounds_toArray, List.set_cons_zero, List.set_cons_succ])
            refine takeH 25 (some 116) (v := ?_) rfl rfl (by kernel_rfl) (by kernel_rfl) (by kernel_rfl) (fun _ _ _ h => h) (Or.inl ⟨by kernel_rfl, ?_⟩) hHeld1 ?_
            rotate_left
            · intro w' hSw
              (try dsimp only at hSw)
              go_simp
              try with_reducible rfl
            (try simp only [Act.put, List.setIfInBounds_toArray, List.set_cons_zero, List.set_cons_succ])
            refine callH 21 (some 112) (f := 8) (args := #[.slice a n c, .agg #[.int .i64 (xi : Nat), .int .i64 (xj : Nat)]]) rfl rfl (by kernel_rfl) (by kernel_rfl) (by kernel_rfl) ?_
            refine (HCP.out _ (btr hW hz1)).mono ?_; rintro e z2 ⟨rfl, gz2⟩; have hz2 := btr hz1 gz2; clear gz2
            have hHeld12 := HSS.out _ hz2
            refine ⟨_, rfl, hHeld12, ?_⟩
            (try simp only [Act.put, List.setIfInBounds_toArray, List.set_cons_zero, List.set_cons_succ])
            refine takeH 26 (some 117) (v := ?_) rfl rfl (by kernel_rfl) (by kernel_rfl) (by kernel_rfl) (fun _ _ _ h => h) (Or.inl ⟨by kernel_rfl, ?_⟩) hHeld12 ?_
            rotate_left
            · intro w' hSw
              (try dsimp only at hSw)
              go_simp
              try with_reducible rfl
            (try simp only [Act.put, List.setIfInBounds_toArray, List.set_cons_zero, List.set_cons_succ])
            refine takeH 27 (some 118) (v := ?_) rfl rfl (by kernel_rfl) (by kernel_rfl) (by kernel_rfl) (fun _ _ _ h => h) (Or.inl ⟨by kernel_rfl, ?_⟩) hHeld12 ?_
            rotate_left
            · intro w' hSw
              (try dsimp only at hSw)
              go_simp
              try with_reducible rfl
            (try simp only [Act.put, List.setIfInBounds_toArray, List.set_cons_zero, List.set_cons_succ])
            refine wpAnyH_done (by kernel_rfl) ?_ _
            go_wp2_with fail
            go_roundw
            case rel => exact ⟨i + 1, by omega, by first | rfl | go_num, btr hbr hz2⟩
            case measure => simp [intOf]; omega
          | false =>
            have hxl : xi = 0 ∧ xj = 0 := by
              have := hxo.resolve_left (by simp)
              exact ⟨congrArg Prod.fst this, congrArg Prod.snd this⟩
            obtain ⟨xe0, xe1⟩ := hxl
            have HAH0 : Hid (∀ w' : World, Below w1.heap.size w1 w' → Calls Try.prog 27 #[.agg #[.int .i64 0, .int .i64 0], .agg #[.int .i64 (ci : Nat), .int .i64 (cj : Nat)]] w' fun e w2 => e = .returned (.bool false) ∧ Below w'.heap.size w' w2) := by subst xe0 xe1; exact HAH
            have HCP0 : Hid (∀ w' : World, Below w1.heap.size w1 w' → Calls Try.prog 8 #[.slice a n c, .agg #[.int .i64 0, .int .i64 0]] w' fun e w2 => e = .returned (.agg #[.int .i64 0, .int .i64 0]) ∧ Below w'.heap.size w' w2) := by subst xe0 xe1; exact HCP
            have HSS0 : Hid (∀ w' : World, Below wr.heap.size wr w' → (fun w' => w'.cell? ⟨w2.heap.size, 0, none⟩ = some (.int .i64 (ci : Nat)) ∧ w'.cell? ⟨w2.heap.size, 1, none⟩ = some (.int .i64 (cj : Nat)) ∧ w'.cell? ⟨y3.heap.size, i * 2, none⟩ = some (.int .i64 0) ∧ w'.cell? ⟨y3.heap.size, i * 2 + 1, none⟩ = some (.int .i64 0)) w') := by subst xe0 xe1; exact HSS
            have t00 : wr.cell? ⟨y3.heap.size, i * 2, none⟩ = some (.int .i64 0) := by subst xe0; exact t0
            have t01 : wr.cell? ⟨y3.heap.size, i * 2 + 1, none⟩ = some (.int .i64 0) := by subst xe1; exact t1
            clear hxo xe0 xe1 t0 t1 HAH HCP HSS
            go_wp2_with fail
            refine wp_region_held (S := fun w' => w'.cell? ⟨w2.heap.size, 0, none⟩ = some (.int .i64 (ci : Nat)) ∧ w'.cell? ⟨w2.heap.size, 1, none⟩ = some (.int .i64 (cj : Nat)) ∧ w'.cell? ⟨y3.heap.size, i * 2, none⟩ = some (.int .i64 0) ∧ w'.cell? ⟨y3.heap.size, i * 2 + 1, none⟩ = some (.int .i64 0)) (by kernel_rfl) ?_
            change wpAnyH _ _ _ _ _ _ _ _ (World.drew _)
            have hHeld : (fun w' => w'.cell? ⟨w2.heap.size, 0, none⟩ = some (.int .i64 (ci : Nat)) ∧ w'.cell? ⟨w2.heap.size, 1, none⟩ = some (.int .i64 (cj : Nat)) ∧ w'.cell? ⟨y3.heap.size, i * 2, none⟩ = some (.int .i64 0) ∧ w'.cell? ⟨y3.heap.size, i * 2 + 1, none⟩ = some (.int .i64 0)) (World.drew wr) := ⟨d0, d1, t00, t01⟩
            refine takeH 0 (some 91) (v := ?_) rfl rfl (by kernel_rfl) (by kernel_rfl) (by kernel_rfl) (fun _ _ _ h => h) (Or.inl ⟨by kernel_rfl, ?_⟩) hHeld ?_
            rotate_left
            · intro w' hSw
              (try dsimp only at hSw)
              go_simp
              try with_reducible rfl
            (try simp only [Act.put, List.setIfInBounds_toArray, List.set_cons_zero, List.set_cons_succ])
            refine takeH 1 (some 92) (v := ?_) rfl rfl (by kernel_rfl) (by kernel_rfl) (by kernel_rfl) (fun _ _ _ h => h) (Or.inl ⟨by kernel_rfl, ?_⟩) hHeld ?_
            rotate_left
            · intro w' hSw
              (try dsimp only at hSw)
              go_simp
              try with_reducible rfl
            (try simp only [Act.put, List.setIfInBounds_toArray, List.set_cons_zero, List.set_cons_succ])
            refine takeH 2 (some 93) (v := ?_) rfl rfl (by kernel_rfl) (by kernel_rfl) (by kernel_rfl) (fun _ _ _ h => h) (Or.inl ⟨by kernel_rfl, ?_⟩) hHeld ?_
            rotate_left
            · intro w' hSw
              (try dsimp only at hSw)
              go_simp
              try with_reducible rfl
            (try simp only [Act.put, List.setIfInBounds_toArray, List.set_cons_zero, List.set_cons_succ])
            refine takeH 3 (some 94) (v := ?_) rfl rfl (by kernel_rfl) (by kernel_rfl) (by kernel_rfl) (fun _ _ _ h => h) (Or.inl ⟨by kernel_rfl, ?_⟩) hHeld ?_
            rotate_left
            · intro w' hSw
              (try dsimp only at hSw)
              go_simp
              try with_reducible rfl
            (try simp only [Act.put, List.setIfInBounds_toArray, List.set_cons_zero, List.set_cons_succ])
            refine takeH 4 (some 95) (v := ?_) rfl rfl (by kernel_rfl) (by kernel_rfl) (by kernel_rfl) (fun _ _ _ h => h) (Or.inl ⟨by kernel_rfl, ?_⟩) hHeld ?_
            rotate_left
            · intro w' hSw
              (try dsimp only at hSw)
              go_simp
              try with_reducible rfl
            (try simp only [Act.put, List.setIfInBounds_toArray, List.set_cons_zero, List.set_cons_succ])
            refine callH 5 (some 96) (f := 27) (args := #[.agg #[.int .i64 0, .int .i64 0], .agg #[.int .i64 (ci : Nat), .int .i64 (cj : Nat)]]) rfl rfl (by kernel_rfl) (by kernel_rfl) (by kernel_rfl) ?_
            refine (HAH0.out _ (btr hW ((Below.refl _ wr).drew))).mono ?_; rintro e z1 ⟨rfl, gz1⟩; have hz1 := btr ((Below.refl _ wr).drew) gz1; clear gz1
            have hHeld1 := HSS0.out _ hz1
            refine ⟨_, rfl, hHeld1, ?_⟩
            (try simp only [Act.put, List.setIfInBounds_toArray, List.set_cons_zero, List.set_cons_succ])
            refine takeH 6 (some 97) (v := ?_) rfl rfl (by kernel_rfl) (by kernel_rfl) (by kernel_rfl) (fun _ _ _ h => h) (Or.inl ⟨by kernel_rfl, ?_⟩) hHeld1 ?_
            rotate_left
            · intro w' hSw
              (try dsimp only at hSw)
              go_simp
              try with_reducible rfl
            (try simp only [Act.put, List.setIfInBounds_toArray, List.set_cons_zero, List.set_cons_succ])
            refine takeH 7 (some 98) (v := ?_) rfl rfl (by kernel_rfl) (by kernel_rfl) (by kernel_rfl) (fun _ _ _ h => h) (Or.inl ⟨by kernel_rfl, ?_⟩) hHeld1 ?_
            rotate_left
            · intro w' hSw
              (try dsimp only at hSw)
              go_simp
              try with_reducible rfl
            (try simp only [Act.put, List.setIfInBounds_toArray, List.set_cons_zero, List.set_cons_succ])
            refine takeH 8 (some 99) (v := ?_) rfl rfl (by kernel_rfl) (by kernel_rfl) (by kernel_rfl) (fun _ _ _ h => h) (Or.inl ⟨by kernel_rfl, ?_⟩) hHeld1 ?_
            rotate_left
            · intro w' hSw
              (try dsimp only at hSw)
              go_simp
              try with_reducible rfl
            (try simp only [Act.put, List.setIfInBounds_toArray, List.set_cons_zero, List.set_cons_succ])
            refine takeH 9 (some 100) (v := ?_) rfl rfl (by kernel_rfl) (by kernel_rfl) (by kernel_rfl) (fun _ _ _ h => h) (Or.inl ⟨by kernel_rfl, ?_⟩) hHeld1 ?_
            rotate_left
            · intro w' hSw
              (try dsimp only at hSw)
              go_simp
              try with_reducible rfl
            (try simp only [Act.put, List.setIfInBounds_toArray, List.set_cons_zero, List.set_cons_succ])
            refine takeH 10 (some 101) (v := ?_) rfl rfl (by kernel_rfl) (by kernel_rfl) (by kernel_rfl) (fun _ _ _ h => h) (Or.inl ⟨by kernel_rfl, ?_⟩) hHeld1 ?_
            rotate_left
            · intro w' hSw
              (try dsimp only at hSw)
              go_simp
              try with_reducible rfl
            (try simp only [Act.put, List.setIfInBounds_toArray, List.set_cons_zero, List.set_cons_succ])
            refine takeH 11 (some 102) (v := ?_) rfl rfl (by kernel_rfl) (by kernel_rfl) (by kernel_rfl) (fun _ _ _ h => h) (Or.inl ⟨by kernel_rfl, ?_⟩) hHeld1 ?_
            rotate_left
            · intro w' hSw
              (try dsimp only at hSw)
              go_simp
              try with_reducible rfl
            (try simp only [Act.put, List.setIfInBounds_toArray, List.set_cons_zero, List.set_cons_succ])
            refine takeH 12 (some 103) (v := ?_) rfl rfl (by kernel_rfl) (by kernel_rfl) (by kernel_rfl) (fun _ _ _ h => h) (Or.inl ⟨by kernel_rfl, ?_⟩) hHeld1 ?_
            rotate_left
            · intro w' hSw
              (try dsimp only at hSw)
              go_simp
              try with_reducible rfl
            (try simp only [Act.put, List.setIfInBounds_toArray, List.set_cons_zero, List.set_cons_succ])
            refine takeH 13 (some 104) (v := ?_) rfl rfl (by kernel_rfl) (by kernel_rfl) (by kernel_rfl) (fun _ _ _ h => h) (Or.inl ⟨by kernel_rfl, ?_⟩) hHeld1 ?_
            rotate_left
            · intro w' hSw
              (try dsimp only at hSw)
              go_simp
              try with_reducible rfl
            (try simp only [Act.put, List.setIfInBounds_toArray, List.set_cons_zero, List.set_cons_succ])
            refine takeH 14 (some 105) (v := ?_) rfl rfl (by kernel_rfl) (by kernel_rfl) (by kernel_rfl) (fun _ _ _ h => h) (Or.inl ⟨by kernel_rfl, ?_⟩) hHeld1 ?_
            rotate_left
            · intro w' hSw
              (try dsimp only at hSw)
              go_simp
              try with_reducible rfl
            (try simp only [Act.put, List.setIfInBounds_toArray, List.set_cons_zero, List.set_cons_succ])
            refine takeH 15 (some 106) (v := ?_) rfl rfl (by kernel_rfl) (by kernel_rfl) (by kernel_rfl) (fun _ _ _ h => h) (Or.inl ⟨by kernel_rfl, ?_⟩) hHeld1 ?_
            rotate_left
            · intro w' hSw
              (try dsimp only at hSw)
              go_simp
              try with_reducible rfl
            (try simp only [Act.put, List.setIfInBounds_toArray, List.set_cons_zero, List.set_cons_succ])
            refine takeH 16 (some 107) (v := ?_) rfl rfl (by kernel_rfl) (by kernel_rfl) (by kernel_rfl) (fun _ _ _ h => h) (Or.inl ⟨by kernel_rfl, ?_⟩) hHeld1 ?_
            rotate_left
            · intro w' hSw
              (try dsimp only at hSw)
              go_simp
              try with_reducible rfl
            (try simp only [Act.put, List.setIfInBounds_toArray, List.set_cons_zero, List.set_cons_succ])
            refine takeH 17 (some 108) (v := ?_) rfl rfl (by kernel_rfl) (by kernel_rfl) (by kernel_rfl) (fun _ _ _ h => h) (Or.inl ⟨by kernel_rfl, ?_⟩) hHeld1 ?_
            rotate_left
            · intro w' hSw
              (try dsimp only at hSw)
              go_simp
              try with_reducible rfl
            (try simp only [Act.put, List.setIfInBounds_toArray, List.set_cons_zero, List.set_cons_succ])
            refine takeH 18 (some 109) (v := ?_) rfl rfl (by kernel_rfl) (by kernel_rfl) (by kernel_rfl) (fun _ _ _ h => h) (Or.inl ⟨by kernel_rfl, ?_⟩) hHeld1 ?_
            rotate_left
            · intro w' hSw
              (try dsimp only at hSw)
              go_simp
              try with_reducible rfl
            (try simp only [Act.put, List.setIfInBounds_toArray, List.set_cons_zero, List.set_cons_succ])
            refine takeH 19 (some 110) (v := ?_) rfl rfl (by kernel_rfl) (by kernel_rfl) (by kernel_rfl) (fun _ _ _ h => h) (Or.inl ⟨by kernel_rfl, ?_⟩) hHeld1 ?_
            rotate_left
            · intro w' hSw
              (try dsimp only at hSw)
              go_simp
              try with_reducible rfl
            (try simp only [Act.put, List.setIfInBounds_toArray, List.set_cons_zero, List.set_cons_succ])
            refine takeH 20 (some 111) (v := ?_) rfl rfl (by kernel_rfl) (by kernel_rfl) (by kernel_rfl) (fun _ _ _ h => h) (Or.inl ⟨by kernel_rfl, ?_⟩) hHeld1 ?_
            rotate_left
            · intro w' hSw
              (try dsimp only at hSw)
              go_simp
              try with_reducible rfl
            (try simp only [Act.put, List.setIfInBounds_toArray, List.set_cons_zero, List.set_cons_succ])
            refine takeH 22 (some 113) (v := ?_) rfl rfl (by kernel_rfl) (by kernel_rfl) (by kernel_rfl) (fun _ _ _ h => h) (Or.inl ⟨by kernel_rfl, ?_⟩) hHeld1 ?_
            rotate_left
            · intro w' hSw
              (try dsimp only at hSw)
              go_simp
              try with_reducible rfl
            (try simp only [Act.put, List.setIfInBounds_toArray, List.set_cons_zero, List.set_cons_succ])
            refine takeH 23 (some 114) (v := ?_) rfl rfl (by kernel_rfl) (by kernel_rfl) (by kernel_rfl) (fun _ _ _ h => h) (Or.inl ⟨by kernel_rfl, ?_⟩) hHeld1 ?_
            rotate_left
            · intro w' hSw
              (try dsimp only at hSw)
              go_simp
              try with_reducible rfl
            (try simp only [Act.put, List.setIfInBounds_toArray, List.set_cons_zero, List.set_cons_succ])
            refine takeH 24 (some 115) (v := ?_) rfl rfl (by kernel_rfl) (by kernel_rfl) (by kernel_rfl) (fun _ _ _ h => h) (Or.inl ⟨by kernel_rfl, ?_⟩) hHeld1 ?_
            rotate_left
            · intro w' hSw
              (try dsimp only at hSw)
              go_simp
              try with_reducible rfl
            (try simp only [Act.put, List.setIfInBounds_toArray, List.set_cons_zero, List.set_cons_succ])
            refine takeH 25 (some 116) (v := ?_) rfl rfl (by kernel_rfl) (by kernel_rfl) (by kernel_rfl) (fun _ _ _ h => h) (Or.inl ⟨by kernel_rfl, ?_⟩) hHeld1 ?_
            rotate_left
            · intro w' hSw
              (try dsimp only at hSw)
              go_simp
              try with_reducible rfl
            (try simp only [Act.put, List.setIfInBounds_toArray, List.set_cons_zero, List.set_cons_succ])
            refine callH 21 (some 112) (f := 8) (args := #[.slice a n c, .agg #[.int .i64 0, .int .i64 0]]) rfl rfl (by kernel_rfl) (by kernel_rfl) (by kernel_rfl) ?_
            refine (HCP0.out _ (btr hW hz1)).mono ?_; rintro e z2 ⟨rfl, gz2⟩; have hz2 := btr hz1 gz2; clear gz2
            have hHeld12 := HSS0.out _ hz2
            refine ⟨_, rfl, hHeld12, ?_⟩
            (try simp only [Act.put, List.setIfInBounds_toArray, List.set_cons_zero, List.set_cons_succ])
            refine takeH 26 (some 117) (v := ?_) rfl rfl (by kernel_rfl) (by kernel_rfl) (by kernel_rfl) (fun _ _ _ h => h) (Or.inl ⟨by kernel_rfl, ?_⟩) hHeld12 ?_
            rotate_left
            · intro w' hSw
              (try dsimp only at hSw)
              go_simp
              try with_reducible rfl
            (try simp only [Act.put, List.setIfInBounds_toArray, List.set_cons_zero, List.set_cons_succ])
            refine takeH 27 (some 118) (v := ?_) rfl rfl (by kernel_rfl) (by kernel_rfl) (by kernel_rfl) (fun _ _ _ h => h) (Or.inl ⟨by kernel_rfl, ?_⟩) hHeld12 ?_
            rotate_left
            · intro w' hSw
              (try dsimp only at hSw)
              go_simp
              try with_reducible rfl
            (try simp only [Act.put, List.setIfInBounds_toArray, List.set_cons_zero, List.set_cons_succ])
            refine wpAnyH_done (by kernel_rfl) ?_ _
            go_wp2_with fail
            go_roundw
            case rel => exact ⟨i + 1, by omega, by first | rfl | go_num, btr hbr hz2⟩
            case measure => simp [intOf]; omega
        · obtain rfl : i = 3 := by omega
          have hW := btr H13.out hbr
          go_wp2_with (go_at_call 15; refine (HAW.out _ hW).mono ?_; rintro e wz ⟨rfl, hbz⟩)
          go_ret
          exact ⟨rfl, HB1.out.trans ((btr hW hbz).mono HB1.out.size)⟩
end Go.Proofs.Ytnegijbdgefaoaa.U
