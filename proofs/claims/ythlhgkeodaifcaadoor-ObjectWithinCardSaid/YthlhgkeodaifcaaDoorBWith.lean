/-
  The walk of ObjectWithin, over the program's Find (FindC: a premise). (MADE by wip/tools/gen_bwith.py.)
-/
import Derived.Test.YthlhgkeodaifcaaDoorBLines
import Derived.Test.YthlhgkeodaifcaaDoorRHand
namespace Go.Proofs.YthlhgkeodaifcaaDoor.U
open Go.RowKit
set_option linter.unusedVariables false
set_option linter.unusedSimpArgs false
set_option maxRecDepth 100000

theorem fdR_none {L : List (List Int)} {p : Pl} {key : Int} {around : Bool} (h : L = [] ∨ fdP L p key around = none) : fdR L p key around = ((0, 0), (0, 0), 0, false) := by
  unfold fdR
  rcases h with h | h
  · rw [if_pos h]
  · by_cases hL : L = []
    · rw [if_pos hL]
    · rw [if_neg hL, h]
theorem fdR_some {L : List (List Int)} {p a b : Pl} {key k : Int} {around : Bool} (h : fdR L p key around = (a, b, k, true)) : L ≠ [] ∧ fdP L p key around = some (a, b, k) := by
  by_cases hL : L = []
  · rw [fdR_none (.inl hL)] at h; cases h
  · refine ⟨hL, ?_⟩
    cases hf : fdP L p key around with
    | none => rw [fdR_none (.inr hf)] at h; cases h
    | some r =>
      obtain ⟨a', b', k'⟩ := r
      unfold fdR at h
      rw [if_neg hL, hf] at h
      cases h
      rfl
theorem within_facts {L : List (List Int)} {p a b c d : Pl} {key k n : Int} {ok is : Bool} (hp : L ≠ [] → okP L p) (h0 : fdR L p key false = (a, b, k, ok)) (h1 : fdR L p key true = (c, d, n, is)) :
    (ok = true → okP L a ∧ okP L b ∧ aheadP b a = false) ∧ (is = true → okP L c ∧ okP L d ∧ aheadP d c = false) ∧ (ok = true → is = true → k = n ∧ aheadP a c = false ∧ aheadP d b = false) := by
  refine ⟨fun h => ?_, fun h => ?_, fun h h' => ?_⟩
  · subst h
    obtain ⟨hL, hf⟩ := fdR_some h0
    exact fd_ok (hp hL) hf
  · subst h
    obtain ⟨hL, hf⟩ := fdR_some h1
    exact fd_ok (hp hL) hf
  · subst h; subst h'
    obtain ⟨hL, hf⟩ := fdR_some h0
    exact fd_within (hp hL) hf (fdR_some h1).2
theorem okP_small {L : List (List Int)} {p1 p2 : Nat} (hz : sizeN (lens L) ≤ 262144) (h : okP L (p1, p2)) : i64p ⟨(p1 : Nat), (p2 : Nat)⟩ := by
  obtain ⟨h1, h2⟩ := h
  simp only at h1 h2
  have h3 := size_count L
  have h4 : (lnL L p1).length ≤ sizeN (lens L) := by
    unfold lnL
    rw [List.getD_eq_getElem?_getD, List.getElem?_eq_getElem h1]
    refine sizeN_mem ?_
    unfold lens
    exact List.mem_map.2 ⟨_, List.getElem_mem h1, rfl⟩
  exact ⟨⟨by show _ ≤ (p1 : Int); omega, by show (p1 : Int) ≤ _; omega⟩, by show _ ≤ (p2 : Int); omega, by show (p2 : Int) ≤ _; omega⟩
/-- what lies in the four places' boxes -/
def WiS (W w6 : World) (A B C D : Nat) (a1 a2 b1 b2 c1 c2 d1 d2 : Nat) (W' : World) : Prop := Below w6.heap.size w6 W' ∧ Below W.heap.size W W' ∧ W'.heap[A]? = some (.cells #[.int .i64 (a1 : Nat), .int .i64 (a2 : Nat)] 24 (0, 0)) ∧ W'.heap[B]? = some (.cells #[.int .i64 (b1 : Nat), .int .i64 (b2 : Nat)] 24 (0, 0)) ∧ W'.heap[C]? = some (.cells #[.int .i64 (c1 : Nat), .int .i64 (c2 : Nat)] 24 (0, 0)) ∧ W'.heap[D]? = some (.cells #[.int .i64 (d1 : Nat), .int .i64 (d2 : Nat)] 24 (0, 0))
theorem WiS.below {W w6 V V2 : World} {A B C D a1 a2 b1 b2 c1 c2 d1 d2 : Nat} (h : WiS W w6 A B C D a1 a2 b1 b2 c1 c2 d1 d2 V) (hb : Below V.heap.size V V2) : WiS W w6 A B C D a1 a2 b1 b2 c1 c2 d1 d2 V2 := by
  obtain ⟨h1, h2, h3, h4, h5, h6⟩ := h
  exact ⟨btr h1 hb, btr h2 hb, (hb.block _ (Array.getElem?_eq_some_iff.1 h3).1).trans h3, (hb.block _ (Array.getElem?_eq_some_iff.1 h4).1).trans h4, (hb.block _ (Array.getElem?_eq_some_iff.1 h5).1).trans h5, (hb.block _ (Array.getElem?_eq_some_iff.1 h6).1).trans h6⟩
theorem WiS.drew {W w6 V : World} {A B C D a1 a2 b1 b2 c1 c2 d1 d2 : Nat} (h : WiS W w6 A B C D a1 a2 b1 b2 c1 c2 d1 d2 V) : WiS W w6 A B C D a1 a2 b1 b2 c1 c2 d1 d2 V.drew := h.below ((Below.refl _ V).drew)
theorem WiS.cells {W w6 V : World} {A B C D a1 a2 b1 b2 c1 c2 d1 d2 : Nat} (h : WiS W w6 A B C D a1 a2 b1 b2 c1 c2 d1 d2 V) : V.cell? ⟨A, 0, none⟩ = some (.int .i64 (a1 : Nat)) ∧ V.cell? ⟨A, 1, none⟩ = some (.int .i64 (a2 : Nat)) ∧ V.cell? ⟨B, 0, none⟩ = some (.int .i64 (b1 : Nat)) ∧ V.cell? ⟨B, 1, none⟩ = some (.int .i64 (b2 : Nat)) ∧ V.cell? ⟨C, 0, none⟩ = some (.int .i64 (c1 : Nat)) ∧ V.cell? ⟨C, 1, none⟩ = some (.int .i64 (c2 : Nat)) ∧ V.cell? ⟨D, 0, none⟩ = some (.int .i64 (d1 : Nat)) ∧ V.cell? ⟨D, 1, none⟩ = some (.int .i64 (d2 : Nat)) := by
  obtain ⟨h1, h2, h3, h4, h5, h6⟩ := h
  exact ⟨(row2 h3).1, (row2 h3).2.1, (row2 h4).1, (row2 h4).2.1, (row2 h5).1, (row2 h5).2.1, (row2 h6).1, (row2 h6).2.1⟩
set_option maxHeartbeats 8000000 in
theorem objectWithin_wideM (HM : FindC 9) (a : Option Addr) (n c : Nat) (L : List (List Int)) (q : Po) (key : Int) (W : World) (h : RdL (fun k => k < W.heap.size) W a n c L) (hq : i64p q) (hkb : i32b key) (hw : WideL L) (hg : Gl W) :
    Calls Tryd.prog 4 #[.slice a n c, q.v, .int .i32 key] W fun e w' => e = .returned (.bool true) ∧ Below W.heap.size W w' := by
  obtain ⟨u, v⟩ := q
  show Calls Tryd.prog _ #[.slice a n c, .agg #[.int .i64 u, .int .i64 v], .int .i32 key] W _
  have hl := h.len
  have hsm0 := h.small
  obtain ⟨w1, hw1, hsz1, g1, hb1⟩ := lone W (.cells #[.int .i64 u, .int .i64 v] 24)
  have h1 := h.below hb1
  have HSM : Hid (Calls Tryd.prog 8 #[.slice a n c] w1 fun e w' => e = .returned (.bool (smallO L)) ∧ Below w1.heap.size w1 w') := smallO_any _ a n c L w1 h1 hw
  have HAW : Hid (∀ w' : World, Below W.heap.size W w' → Calls Tryd.prog 11 #[] w' fun e w2 => e = .returned (.bool true) ∧ Below w'.heap.size w' w2) := fun w' hb => awake_any HM w' (hg.up hb)
  have HGW := Lib.hid hg
  clear hg
  obtain ⟨x0, x1, xf0, xf1⟩ := row2 g1
  have HW1 := Lib.hid hw1
  have HB1 := Lib.hid hb1
  have G1 := Lib.hid g1
  obtain ⟨sm, hsm⟩ : ∃ sm, smallO L = sm := ⟨_, rfl⟩
  rw [hsm] at HSM
  cases sm with
  | false =>
    clear h h1 hw1 hb1 g1 hsm hl
    go_enter Tryd.func4, Tryd.ntmps4
    go_upto_region 1 with fail
    rw [HW1.out]
    go_wp2_with (go_at_call 8; refine HSM.out.mono ?_; rintro e w2 ⟨rfl, hb2⟩; obtain ⟨x0, x1, xf0, xf1⟩ := row2 ((hb2.block _ (Array.getElem?_eq_some_iff.1 G1.out).1).trans G1.out))
    go_ret
    exact ⟨rfl, btr HB1.out hb2⟩
  | true =>
    have hz := smallO_size hsm
    obtain ⟨cp, hcp⟩ : ∃ p, clipP L u v = p := ⟨_, rfl⟩
    have hok : L ≠ [] → okP L cp := fun hL => by rw [← hcp]; exact clipP_ok hL u v
    obtain ⟨⟨⟨a1, a2⟩, ⟨b1, b2⟩, k, ok⟩, h0f⟩ : ∃ r, fdR L cp key false = r := ⟨_, rfl⟩
    obtain ⟨⟨⟨c1, c2⟩, ⟨d1, d2⟩, kn, is⟩, h1f⟩ : ∃ r, fdR L cp key true = r := ⟨_, rfl⟩
    obtain ⟨f1, f2, f3⟩ := within_facts hok h0f h1f
    have HF0 : Hid (∀ W', Below W.heap.size W W' → Calls Tryd.prog 9 #[.slice a n c, .agg #[.int .i64 u, .int .i64 v], .int .i32 key, .bool false] W' fun e w' => e = .returned (.tuple #[.agg #[.int .i64 (a1 : Nat), .int .i64 (a2 : Nat)], .agg #[.int .i64 (b1 : Nat), .int .i64 (b2 : Nat)], .int .i64 k, .bool ok]) ∧ Below W'.heap.size W' w') := by
      intro W' hb
      have := HM _ a n c L ⟨u, v⟩ key false W' (HGW.out.up hb) (h.below hb) hq hkb hz
      simp only [hcp, h0f] at this
      exact this
    have HF1 : Hid (∀ W', Below W.heap.size W W' → Calls Tryd.prog 9 #[.slice a n c, .agg #[.int .i64 u, .int .i64 v], .int .i32 key, .bool true] W' fun e w' => e = .returned (.tuple #[.agg #[.int .i64 (c1 : Nat), .int .i64 (c2 : Nat)], .agg #[.int .i64 (d1 : Nat), .int .i64 (d2 : Nat)], .int .i64 kn, .bool is]) ∧ Below W'.heap.size W' w') := by
      intro W' hb
      have := HM _ a n c L ⟨u, v⟩ key true W' (HGW.out.up hb) (h.below hb) hq hkb hz
      simp only [hcp, h1f] at this
      exact this
    have HCL : Hid (∀ (p1 p2 : Nat) (W' : World), okP L (p1, p2) → Below W.heap.size W W' → Calls Tryd.prog 12 #[.slice a n c, .agg #[.int .i64 (p1 : Nat), .int .i64 (p2 : Nat)]] W' fun e w' => e = .returned (.agg #[.int .i64 (p1 : Nat), .int .i64 (p2 : Nat)]) ∧ Below W'.heap.size W' w') := by
      intro p1 p2 W' hp hb
      have := rclip_any _ a n c L ⟨(p1 : Nat), (p2 : Nat)⟩ W' (h.below hb) (okP_small hz hp)
      have he : clipP L ((p1 : Nat) : Int) ((p2 : Nat) : Int) = (p1, p2) := clipP_id hp
      simp only [he] at this
      exact this
    have HAH : Hid (∀ (p1 p2 q1 q2 : Nat) (W' : World), Calls Tryd.prog 13 #[.agg #[.int .i64 (p1 : Nat), .int .i64 (p2 : Nat)], .agg #[.int .i64 (q1 : Nat), .int .i64 (q2 : Nat)]] W' fun e w' => e = .returned (.bool (aheadP (p1, p2) (q1, q2))) ∧ Below W'.heap.size W' w') := fun p1 p2 q1 q2 W' => rahead_any (p1, p2) (q1, q2) W'
    have FF1 := Lib.hid f1
    have FF2 := Lib.hid f2
    have FF3 := Lib.hid f3
    clear h h1 hw1 hb1 g1 hsm hl hz hok hcp hq hkb h0f h1f f1 f2 f3
    go_enter Tryd.func4, Tryd.ntmps4
    go_upto_region 1 with fail
    rw [HW1.out]
    go_upto_region 4 with (first
      | (go_at_call 8; refine HSM.out.mono ?_; rintro e w2 ⟨rfl, hb2⟩; obtain ⟨x0, x1, xf0, xf1⟩ := row2 ((hb2.block _ (Array.getElem?_eq_some_iff.1 G1.out).1).trans G1.out))
      | (go_at_call 9; refine (HF0.out _ (btr HB1.out hb2)).mono ?_; rintro e w3 ⟨rfl, hb3⟩))
    obtain ⟨w4, hw4, hsz4, g5, g6, hb4⟩ := ltwo w3 (.cells #[.int .i64 (a1 : Nat), .int .i64 (a2 : Nat)] 24) (.cells #[.int .i64 (b1 : Nat), .int .i64 (b2 : Nat)] 24)
    rw [hw4]
    have HB4 : Hid (Below W.heap.size W w4) := btr HB1.out (btr hb2 (btr hb3 hb4))
    have hg4 := ((btr hb2 (btr hb3 hb4)).block _ (Array.getElem?_eq_some_iff.1 G1.out).1).trans G1.out
    obtain ⟨x0, x1, xf0, xf1⟩ := row2 hg4
    obtain ⟨S4, hS4⟩ : ∃ S, w3.heap.size = S := ⟨_, rfl⟩
    rw [hS4] at g5 g6
    rw [hS4]
    have G4 := Lib.hid hg4
    have GA := Lib.hid g5
    have GB := Lib.hid g6
    clear hw4 hsz4 g5 g6 hb4 hb2 hb3 hg4 hS4
    go_upto_region 5 with (go_at_call 9; refine (HF1.out _ HB4.out).mono ?_; rintro e w5 ⟨rfl, hb5⟩)
    obtain ⟨w6, hw6, hsz6, g7, g8, hb6⟩ := ltwo w5 (.cells #[.int .i64 (c1 : Nat), .int .i64 (c2 : Nat)] 24) (.cells #[.int .i64 (d1 : Nat), .int .i64 (d2 : Nat)] 24)
    rw [hw6]
    have hb46 := btr hb5 hb6
    have HB6 : Hid (Below W.heap.size W w6) := btr HB4.out hb46
    have ga := (hb46.block _ (Array.getElem?_eq_some_iff.1 GA.out).1).trans GA.out
    have gb := (hb46.block _ (Array.getElem?_eq_some_iff.1 GB.out).1).trans GB.out
    obtain ⟨S6, hS6⟩ : ∃ S, w5.heap.size = S := ⟨_, rfl⟩
    rw [hS6] at g7 g8
    rw [hS6]
    have HS6 : Hid (WiS W w6 S4 (S4 + 1) S6 (S6 + 1) a1 a2 b1 b2 c1 c2 d1 d2 w6) := ⟨Below.refl _ _, HB6.out, ga, gb, g7, g8⟩
    clear hw6 hsz6 g7 g8 hb6 hb5 hb46 ga gb hS6 x0 x1 xf0 xf1
    cases ok with
    | true =>
      obtain ⟨oa, ob, ahA⟩ := FF1.out rfl
      refine wp_region_held (S := WiS W w6 S4 (S4 + 1) S6 (S6 + 1) a1 a2 b1 b2 c1 c2 d1 d2) (by kernel_rfl) ?_
      change wpAnyH _ _ _ _ _ _ _ _ (World.drew _)
      have hHA : (WiS W w6 S4 (S4 + 1) S6 (S6 + 1) a1 a2 b1 b2 c1 c2 d1 d2) (World.drew w6) := HS6.out.drew
      refine takeH 0 (some 36) (v := ?_) rfl rfl (by kernel_rfl) (by kernel_rfl) (by kernel_rfl) (fun _ _ _ h => h) (Or.inl ⟨by kernel_rfl, ?_⟩) hHA ?_
      rotate_left
      · intro w' hSw
        obtain ⟨s0, s1, s2, s3, s4, s5, s6, s7⟩ := hSw.cells
        go_simp
        try with_reducible rfl
      (try simp only [Act.put, List.setIfInBounds_toArray, List.set_cons_zero, List.set_cons_succ])
      refine takeH 1 (some 37) (v := ?_) rfl rfl (by kernel_rfl) (by kernel_rfl) (by kernel_rfl) (fun _ _ _ h => h) (Or.inl ⟨by kernel_rfl, ?_⟩) hHA ?_
      rotate_left
      · intro w' hSw
        obtain ⟨s0, s1, s2, s3, s4, s5, s6, s7⟩ := hSw.cells
        go_simp
        try with_reducible rfl
      (try simp only [Act.put, List.setIfInBounds_toArray, List.set_cons_zero, List.set_cons_succ])
      refine takeH 2 (some 38) (v := ?_) rfl rfl (by kernel_rfl) (by kernel_rfl) (by kernel_rfl) (fun _ _ _ h => h) (Or.inl ⟨by kernel_rfl, ?_⟩) hHA ?_
      rotate_left
      · intro w' hSw
        obtain ⟨s0, s1, s2, s3, s4, s5, s6, s7⟩ := hSw.cells
        go_simp
        try with_reducible rfl
      (try simp only [Act.put, List.setIfInBounds_toArray, List.set_cons_zero, List.set_cons_succ])
      refine takeH 3 (some 39) (v := ?_) rfl rfl (by kernel_rfl) (by kernel_rfl) (by kernel_rfl) (fun _ _ _ h => h) (Or.inl ⟨by kernel_rfl, ?_⟩) hHA ?_
      rotate_left
      · intro w' hSw
        obtain ⟨s0, s1, s2, s3, s4, s5, s6, s7⟩ := hSw.cells
        go_simp
        try with_reducible rfl
      (try simp only [Act.put, List.setIfInBounds_toArray, List.set_cons_zero, List.set_cons_succ])
      refine takeH 5 (some 41) (v := ?_) rfl rfl (by kernel_rfl) (by kernel_rfl) (by kernel_rfl) (fun _ _ _ h => h) (Or.inl ⟨by kernel_rfl, ?_⟩) hHA ?_
      rotate_left
      · intro w' hSw
        obtain ⟨s0, s1, s2, s3, s4, s5, s6, s7⟩ := hSw.cells
        go_simp
        try with_reducible rfl
      (try simp only [Act.put, List.setIfInBounds_toArray, List.set_cons_zero, List.set_cons_succ])
      refine callH 4 (some 40) (f := 12) (args := ?_) rfl rfl (by kernel_rfl) (by kernel_rfl) ?_ ?_
      rotate_left
      · go_simp
        try with_reducible rfl
      refine (HCL.out a1 a2 _ oa hHA.2.1).mono ?_
      rintro e vA1 ⟨rfl, hbA1⟩
      have hHA1 := hHA.below hbA1
      refine ⟨_, rfl, hHA1, ?_⟩
      (try simp only [Act.put, List.setIfInBounds_toArray, List.set_cons_zero, List.set_cons_succ])
      refine takeH 6 (some 42) (v := ?_) rfl rfl (by kernel_rfl) (by kernel_rfl) (by kernel_rfl) (fun _ _ _ h => h) (Or.inl ⟨by kernel_rfl, ?_⟩) hHA1 ?_
      rotate_left
      · intro w' hSw
        obtain ⟨s0, s1, s2, s3, s4, s5, s6, s7⟩ := hSw.cells
        go_simp
        try with_reducible rfl
      (try simp only [Act.put, List.setIfInBounds_toArray, List.set_cons_zero, List.set_cons_succ])
      refine takeH 7 (some 43) (v := ?_) rfl rfl (by kernel_rfl) (by kernel_rfl) (by kernel_rfl) (fun _ _ _ h => h) (Or.inl ⟨by kernel_rfl, ?_⟩) hHA1 ?_
      rotate_left
      · intro w' hSw
        obtain ⟨s0, s1, s2, s3, s4, s5, s6, s7⟩ := hSw.cells
        go_simp
        try with_reducible rfl
      (try simp only [Act.put, List.setIfInBounds_toArray, List.set_cons_zero, List.set_cons_succ])
      refine takeH 8 (some 44) (v := ?_) rfl rfl (by kernel_rfl) (by kernel_rfl) (by kernel_rfl) (fun _ _ _ h => h) (Or.inl ⟨by kernel_rfl, ?_⟩) hHA1 ?_
      rotate_left
      · intro w' hSw
        obtain ⟨s0, s1, s2, s3, s4, s5, s6, s7⟩ := hSw.cells
        go_simp
        try with_reducible rfl
      (try simp only [Act.put, List.setIfInBounds_toArray, List.set_cons_zero, List.set_cons_succ])
      refine takeH 9 (some 45) (v := ?_) rfl rfl (by kernel_rfl) (by kernel_rfl) (by kernel_rfl) (fun _ _ _ h => h) (Or.inl ⟨by kernel_rfl, ?_⟩) hHA1 ?_
      rotate_left
      · intro w' hSw
        obtain ⟨s0, s1, s2, s3, s4, s5, s6, s7⟩ := hSw.cells
        go_simp
        try with_reducible rfl
      (try simp only [Act.put, List.setIfInBounds_toArray, List.set_cons_zero, List.set_cons_succ])
      refine takeH 11 (some 47) (v := ?_) rfl rfl (by kernel_rfl) (by kernel_rfl) (by kernel_rfl) (fun _ _ _ h => h) (Or.inl ⟨by kernel_rfl, ?_⟩) hHA1 ?_
      rotate_left
      · intro w' hSw
        obtain ⟨s0, s1, s2, s3, s4, s5, s6, s7⟩ := hSw.cells
        go_simp
        try with_reducible rfl
      (try simp only [Act.put, List.setIfInBounds_toArray, List.set_cons_zero, List.set_cons_succ])
      refine callH 10 (some 46) (f := 12) (args := ?_) rfl rfl (by kernel_rfl) (by kernel_rfl) ?_ ?_
      rotate_left
      · go_simp
        try with_reducible rfl
      refine (HCL.out b1 b2 _ ob hHA1.2.1).mono ?_
      rintro e vA2 ⟨rfl, hbA2⟩
      have hHA12 := hHA1.below hbA2
      refine ⟨_, rfl, hHA12, ?_⟩
      (try simp only [Act.put, List.setIfInBounds_toArray, List.set_cons_zero, List.set_cons_succ])
      refine takeH 12 (some 48) (v := ?_) rfl rfl (by kernel_rfl) (by kernel_rfl) (by kernel_rfl) (fun _ _ _ h => h) (Or.inl ⟨by kernel_rfl, ?_⟩) hHA12 ?_
      rotate_left
      · intro w' hSw
        obtain ⟨s0, s1, s2, s3, s4, s5, s6, s7⟩ := hSw.cells
        go_simp
        try with_reducible rfl
      (try simp only [Act.put, List.setIfInBounds_toArray, List.set_cons_zero, List.set_cons_succ])
      refine takeH 13 (some 49) (v := ?_) rfl rfl (by kernel_rfl) (by kernel_rfl) (by kernel_rfl) (fun _ _ _ h => h) (Or.inl ⟨by kernel_rfl, ?_⟩) hHA12 ?_
      rotate_left
      · intro w' hSw
        obtain ⟨s0, s1, s2, s3, s4, s5, s6, s7⟩ := hSw.cells
        go_simp
        try with_reducible rfl
      (try simp only [Act.put, List.setIfInBounds_toArray, List.set_cons_zero, List.set_cons_succ])
      refine takeH 14 (some 50) (v := ?_) rfl rfl (by kernel_rfl) (by kernel_rfl) (by kernel_rfl) (fun _ _ _ h => h) (Or.inl ⟨by kernel_rfl, ?_⟩) hHA12 ?_
      rotate_left
      · intro w' hSw
        obtain ⟨s0, s1, s2, s3, s4, s5, s6, s7⟩ := hSw.cells
        go_simp
        try with_reducible rfl
      (try simp only [Act.put, List.setIfInBounds_toArray, List.set_cons_zero, List.set_cons_succ])
      refine takeH 15 (some 51) (v := ?_) rfl rfl (by kernel_rfl) (by kernel_rfl) (by kernel_rfl) (fun _ _ _ h => h) (Or.inl ⟨by kernel_rfl, ?_⟩) hHA12 ?_
      rotate_left
      · intro w' hSw
        obtain ⟨s0, s1, s2, s3, s4, s5, s6, s7⟩ := hSw.cells
        go_simp
        try with_reducible rfl
      (try simp only [Act.put, List.setIfInBounds_toArray, List.set_cons_zero, List.set_cons_succ])
      refine takeH 16 (some 52) (v := ?_) rfl rfl (by kernel_rfl) (by kernel_rfl) (by kernel_rfl) (fun _ _ _ h => h) (Or.inl ⟨by kernel_rfl, ?_⟩) hHA12 ?_
      rotate_left
      · intro w' hSw
        obtain ⟨s0, s1, s2, s3, s4, s5, s6, s7⟩ := hSw.cells
        go_simp
        try with_reducible rfl
      (try simp only [Act.put, List.setIfInBounds_toArray, List.set_cons_zero, List.set_cons_succ])
      refine callH 17 (some 53) (f := 13) (args := ?_) rfl rfl (by kernel_rfl) (by kernel_rfl) ?_ ?_
      rotate_left
      · go_simp
        try with_reducible rfl
      refine (HAH.out b1 b2 a1 a2 _).mono ?_
      rintro e vA3 ⟨rfl, hbA3⟩
      have hHA123 := hHA12.below hbA3
      rw [ahA]
      refine ⟨_, rfl, hHA123, ?_⟩
      (try simp only [Act.put, List.setIfInBounds_toArray, List.set_cons_zero, List.set_cons_succ])
      refine takeH 18 (some 54) (v := ?_) rfl rfl (by kernel_rfl) (by kernel_rfl) (by kernel_rfl) (fun _ _ _ h => h) (Or.inl ⟨by kernel_rfl, ?_⟩) hHA123 ?_
      rotate_left
      · intro w' hSw
        obtain ⟨s0, s1, s2, s3, s4, s5, s6, s7⟩ := hSw.cells
        go_simp
        try with_reducible rfl
      (try simp only [Act.put, List.setIfInBounds_toArray, List.set_cons_zero, List.set_cons_succ])
      refine takeH 19 (some 55) (v := ?_) rfl rfl (by kernel_rfl) (by kernel_rfl) (by kernel_rfl) (fun _ _ _ h => h) (Or.inl ⟨by kernel_rfl, ?_⟩) hHA123 ?_
      rotate_left
      · intro w' hSw
        obtain ⟨s0, s1, s2, s3, s4, s5, s6, s7⟩ := hSw.cells
        go_simp
        try with_reducible rfl
      (try simp only [Act.put, List.setIfInBounds_toArray, List.set_cons_zero, List.set_cons_succ])
      refine wpAnyH_done (by kernel_rfl) ?_ _
      have HSA := Lib.hid hHA123
      clear hHA
      go_wp2_with fail
      cases is with
      | true =>
        obtain ⟨oc, od, ahB⟩ := FF2.out rfl
        refine wp_region_held (S := WiS W w6 S4 (S4 + 1) S6 (S6 + 1) a1 a2 b1 b2 c1 c2 d1 d2) (by kernel_rfl) ?_
        change wpAnyH _ _ _ _ _ _ _ _ (World.drew _)
        have hHB : (WiS W w6 S4 (S4 + 1) S6 (S6 + 1) a1 a2 b1 b2 c1 c2 d1 d2) (World.drew (vA3)) := HSA.out.drew
        refine takeH 0 (some 56) (v := ?_) rfl rfl (by kernel_rfl) (by kernel_rfl) (by kernel_rfl) (fun _ _ _ h => h) (Or.inl ⟨by kernel_rfl, ?_⟩) hHB ?_
        rotate_left
        · intro w' hSw
          obtain ⟨s0, s1, s2, s3, s4, s5, s6, s7⟩ := hSw.cells
          go_simp
          try with_reducible rfl
        (try simp only [Act.put, List.setIfInBounds_toArray, List.set_cons_zero, List.set_cons_succ])
        refine takeH 1 (some 57) (v := ?_) rfl rfl (by kernel_rfl) (by kernel_rfl) (by kernel_rfl) (fun _ _ _ h => h) (Or.inl ⟨by kernel_rfl, ?_⟩) hHB ?_
        rotate_left
        · intro w' hSw
          obtain ⟨s0, s1, s2, s3, s4, s5, s6, s7⟩ := hSw.cells
          go_simp
          try with_reducible rfl
        (try simp only [Act.put, List.setIfInBounds_toArray, List.set_cons_zero, List.set_cons_succ])
        refine takeH 2 (some 58) (v := ?_) rfl rfl (by kernel_rfl) (by kernel_rfl) (by kernel_rfl) (fun _ _ _ h => h) (Or.inl ⟨by kernel_rfl, ?_⟩) hHB ?_
        rotate_left
        · intro w' hSw
          obtain ⟨s0, s1, s2, s3, s4, s5, s6, s7⟩ := hSw.cells
          go_simp
          try with_reducible rfl
        (try simp only [Act.put, List.setIfInBounds_toArray, List.set_cons_zero, List.set_cons_succ])
        refine takeH 3 (some 59) (v := ?_) rfl rfl (by kernel_rfl) (by kernel_rfl) (by kernel_rfl) (fun _ _ _ h => h) (Or.inl ⟨by kernel_rfl, ?_⟩) hHB ?_
        rotate_left
        · intro w' hSw
          obtain ⟨s0, s1, s2, s3, s4, s5, s6, s7⟩ := hSw.cells
          go_simp
          try with_reducible rfl
        (try simp only [Act.put, List.setIfInBounds_toArray, List.set_cons_zero, List.set_cons_succ])
        refine takeH 5 (some 61) (v := ?_) rfl rfl (by kernel_rfl) (by kernel_rfl) (by kernel_rfl) (fun _ _ _ h => h) (Or.inl ⟨by kernel_rfl, ?_⟩) hHB ?_
        rotate_left
        · intro w' hSw
          obtain ⟨s0, s1, s2, s3, s4, s5, s6, s7⟩ := hSw.cells
          go_simp
          try with_reducible rfl
        (try simp only [Act.put, List.setIfInBounds_toArray, List.set_cons_zero, List.set_cons_succ])
        refine callH 4 (some 60) (f := 12) (args := ?_) rfl rfl (by kernel_rfl) (by kernel_rfl) ?_ ?_
        rotate_left
        · go_simp
          try with_reducible rfl
        refine (HCL.out c1 c2 _ oc hHB.2.1).mono ?_
        rintro e vB1 ⟨rfl, hbB1⟩
        have hHB1 := hHB.below hbB1
        refine ⟨_, rfl, hHB1, ?_⟩
        (try simp only [Act.put, List.setIfInBounds_toArray, List.set_cons_zero, List.set_cons_succ])
        refine takeH 6 (some 62) (v := ?_) rfl rfl (by kernel_rfl) (by kernel_rfl) (by kernel_rfl) (fun _ _ _ h => h) (Or.inl ⟨by kernel_rfl, ?_⟩) hHB1 ?_
        rotate_left
        · intro w' hSw
          obtain ⟨s0, s1, s2, s3, s4, s5, s6, s7⟩ := hSw.cells
          go_simp
          try with_reducible rfl
        (try simp only [Act.put, List.setIfInBounds_toArray, List.set_cons_zero, List.set_cons_succ])
        refine takeH 7 (some 63) (v := ?_) rfl rfl (by kernel_rfl) (by kernel_rfl) (by kernel_rfl) (fun _ _ _ h => h) (Or.inl ⟨by kernel_rfl, ?_⟩) hHB1 ?_
        rotate_left
        · intro w' hSw
          obtain ⟨s0, s1, s2, s3, s4, s5, s6, s7⟩ := hSw.cells
          go_simp
          try with_reducible rfl
        (try simp only [Act.put, List.setIfInBounds_toArray, List.set_cons_zero, List.set_cons_succ])
        refine takeH 8 (some 64) (v := ?_) rfl rfl (by kernel_rfl) (by kernel_rfl) (by kernel_rfl) (fun _ _ _ h => h) (Or.inl ⟨by kernel_rfl, ?_⟩) hHB1 ?_
        rotate_left
        · intro w' hSw
          obtain ⟨s0, s1, s2, s3, s4, s5, s6, s7⟩ := hSw.cells
          go_simp
          try with_reducible rfl
        (try simp only [Act.put, List.setIfInBounds_toArray, List.set_cons_zero, List.set_cons_succ])
        refine takeH 9 (some 65) (v := ?_) rfl rfl (by kernel_rfl) (by kernel_rfl) (by kernel_rfl) (fun _ _ _ h => h) (Or.inl ⟨by kernel_rfl, ?_⟩) hHB1 ?_
        rotate_left
        · intro w' hSw
          obtain ⟨s0, s1, s2, s3, s4, s5, s6, s7⟩ := hSw.cells
          go_simp
          try with_reducible rfl
        (try simp only [Act.put, List.setIfInBounds_toArray, List.set_cons_zero, List.set_cons_succ])
        refine takeH 11 (some 67) (v := ?_) rfl rfl (by kernel_rfl) (by kernel_rfl) (by kernel_rfl) (fun _ _ _ h => h) (Or.inl ⟨by kernel_rfl, ?_⟩) hHB1 ?_
        rotate_left
        · intro w' hSw
          obtain ⟨s0, s1, s2, s3, s4, s5, s6, s7⟩ := hSw.cells
          go_simp
          try with_reducible rfl
        (try simp only [Act.put, List.setIfInBounds_toArray, List.set_cons_zero, List.set_cons_succ])
        refine callH 10 (some 66) (f := 12) (args := ?_) rfl rfl (by kernel_rfl) (by kernel_rfl) ?_ ?_
        rotate_left
        · go_simp
          try with_reducible rfl
        refine (HCL.out d1 d2 _ od hHB1.2.1).mono ?_
        rintro e vB2 ⟨rfl, hbB2⟩
        have hHB12 := hHB1.below hbB2
        refine ⟨_, rfl, hHB12, ?_⟩
        (try simp only [Act.put, List.setIfInBounds_toArray, List.set_cons_zero, List.set_cons_succ])
        refine takeH 12 (some 68) (v := ?_) rfl rfl (by kernel_rfl) (by kernel_rfl) (by kernel_rfl) (fun _ _ _ h => h) (Or.inl ⟨by kernel_rfl, ?_⟩) hHB12 ?_
        rotate_left
        · intro w' hSw
          obtain ⟨s0, s1, s2, s3, s4, s5, s6, s7⟩ := hSw.cells
          go_simp
          try with_reducible rfl
        (try simp only [Act.put, List.setIfInBounds_toArray, List.set_cons_zero, List.set_cons_succ])
        refine takeH 13 (some 69) (v := ?_) rfl rfl (by kernel_rfl) (by kernel_rfl) (by kernel_rfl) (fun _ _ _ h => h) (Or.inl ⟨by kernel_rfl, ?_⟩) hHB12 ?_
        rotate_left
        · intro w' hSw
          obtain ⟨s0, s1, s2, s3, s4, s5, s6, s7⟩ := hSw.cells
          go_simp
          try with_reducible rfl
        (try simp only [Act.put, List.setIfInBounds_toArray, List.set_cons_zero, List.set_cons_succ])
        refine takeH 14 (some 70) (v := ?_) rfl rfl (by kernel_rfl) (by kernel_rfl) (by kernel_rfl) (fun _ _ _ h => h) (Or.inl ⟨by kernel_rfl, ?_⟩) hHB12 ?_
        rotate_left
        · intro w' hSw
          obtain ⟨s0, s1, s2, s3, s4, s5, s6, s7⟩ := hSw.cells
          go_simp
          try with_reducible rfl
        (try simp only [Act.put, List.setIfInBounds_toArray, List.set_cons_zero, List.set_cons_succ])
        refine takeH 15 (some 71) (v := ?_) rfl rfl (by kernel_rfl) (by kernel_rfl) (by kernel_rfl) (fun _ _ _ h => h) (Or.inl ⟨by kernel_rfl, ?_⟩) hHB12 ?_
        rotate_left
        · intro w' hSw
          obtain ⟨s0, s1, s2, s3, s4, s5, s6, s7⟩ := hSw.cells
          go_simp
          try with_reducible rfl
        (try simp only [Act.put, List.setIfInBounds_toArray, List.set_cons_zero, List.set_cons_succ])
        refine takeH 16 (some 72) (v := ?_) rfl rfl (by kernel_rfl) (by kernel_rfl) (by kernel_rfl) (fun _ _ _ h => h) (Or.inl ⟨by kernel_rfl, ?_⟩) hHB12 ?_
        rotate_left
        · intro w' hSw
          obtain ⟨s0, s1, s2, s3, s4, s5, s6, s7⟩ := hSw.cells
          go_simp
          try with_reducible rfl
        (try simp only [Act.put, List.setIfInBounds_toArray, List.set_cons_zero, List.set_cons_succ])
        refine callH 17 (some 73) (f := 13) (args := ?_) rfl rfl (by kernel_rfl) (by kernel_rfl) ?_ ?_
        rotate_left
        · go_simp
          try with_reducible rfl
        refine (HAH.out d1 d2 c1 c2 _).mono ?_
        rintro e vB3 ⟨rfl, hbB3⟩
        have hHB123 := hHB12.below hbB3
        rw [ahB]
        refine ⟨_, rfl, hHB123, ?_⟩
        (try simp only [Act.put, List.setIfInBounds_toArray, List.set_cons_zero, List.set_cons_succ])
        refine takeH 18 (some 74) (v := ?_) rfl rfl (by kernel_rfl) (by kernel_rfl) (by kernel_rfl) (fun _ _ _ h => h) (Or.inl ⟨by kernel_rfl, ?_⟩) hHB123 ?_
        rotate_left
        · intro w' hSw
          obtain ⟨s0, s1, s2, s3, s4, s5, s6, s7⟩ := hSw.cells
          go_simp
          try with_reducible rfl
        (try simp only [Act.put, List.setIfInBounds_toArray, List.set_cons_zero, List.set_cons_succ])
        refine takeH 19 (some 75) (v := ?_) rfl rfl (by kernel_rfl) (by kernel_rfl) (by kernel_rfl) (fun _ _ _ h => h) (Or.inl ⟨by kernel_rfl, ?_⟩) hHB123 ?_
        rotate_left
        · intro w' hSw
          obtain ⟨s0, s1, s2, s3, s4, s5, s6, s7⟩ := hSw.cells
          go_simp
          try with_reducible rfl
        (try simp only [Act.put, List.setIfInBounds_toArray, List.set_cons_zero, List.set_cons_succ])
        refine wpAnyH_done (by kernel_rfl) ?_ _
        obtain ⟨hkn, ah1, ah2⟩ := FF3.out (by trivial) (by trivial)
        obtain ⟨s0, s1, s2, s3, s4, s5, s6, s7⟩ := hHB123.cells
        have HSB := Lib.hid hHB123
        subst hkn
        have HX1 : Hid (∀ W', Calls Tryd.prog 13 #[.agg #[.int .i64 (a1 : Nat), .int .i64 (a2 : Nat)], .agg #[.int .i64 (c1 : Nat), .int .i64 (c2 : Nat)]] W' fun e w' => e = .returned (.bool false) ∧ Below W'.heap.size W' w') := fun W' => by rw [← ah1]; exact HAH.out a1 a2 c1 c2 W'
        have HX2 : Hid (∀ W', Calls Tryd.prog 13 #[.agg #[.int .i64 (d1 : Nat), .int .i64 (d2 : Nat)], .agg #[.int .i64 (b1 : Nat), .int .i64 (b2 : Nat)]] W' fun e w' => e = .returned (.bool false) ∧ Below W'.heap.size W' w') := fun W' => by rw [← ah2]; exact HAH.out d1 d2 b1 b2 W'
        have tok : True := trivial
        go_wp2_with (first
          | (go_at_call 13; have _t := tok; refine (HX1.out _).mono ?_; clear tok _t; rintro e w7 ⟨rfl, hb7⟩; have HS7 := Lib.hid (HSB.out.below hb7); obtain ⟨s0, s1, s2, s3, s4, s5, s6, s7⟩ := HS7.out.cells)
          | (go_at_call 13; refine (HX2.out _).mono ?_; rintro e w8 ⟨rfl, hb8⟩; have HS8 := Lib.hid (HS7.out.below hb8))
          | (go_at_call 11; refine (HAW.out _ HS8.out.2.1).mono ?_; rintro e w9 ⟨rfl, hb9⟩))
        go_ret
        exact ⟨rfl, btr HS8.out.2.1 hb9⟩
      | false =>
        refine wp_region_held (S := WiS W w6 S4 (S4 + 1) S6 (S6 + 1) a1 a2 b1 b2 c1 c2 d1 d2) (by kernel_rfl) ?_
        change wpAnyH _ _ _ _ _ _ _ _ (World.drew _)
        have hHB : (WiS W w6 S4 (S4 + 1) S6 (S6 + 1) a1 a2 b1 b2 c1 c2 d1 d2) (World.drew (vA3)) := HSA.out.drew
        refine takeH 0 (some 56) (v := ?_) rfl rfl (by kernel_rfl) (by kernel_rfl) (by kernel_rfl) (fun _ _ _ h => h) (Or.inl ⟨by kernel_rfl, ?_⟩) hHB ?_
        rotate_left
        · intro w' hSw
          obtain ⟨s0, s1, s2, s3, s4, s5, s6, s7⟩ := hSw.cells
          go_simp
          try with_reducible rfl
        (try simp only [Act.put, List.setIfInBounds_toArray, List.set_cons_zero, List.set_cons_succ])
        refine takeH 1 (some 57) (v := ?_) rfl rfl (by kernel_rfl) (by kernel_rfl) (by kernel_rfl) (fun _ _ _ h => h) (Or.inl ⟨by kernel_rfl, ?_⟩) hHB ?_
        rotate_left
        · intro w' hSw
          obtain ⟨s0, s1, s2, s3, s4, s5, s6, s7⟩ := hSw.cells
          go_simp
          try with_reducible rfl
        (try simp only [Act.put, List.setIfInBounds_toArray, List.set_cons_zero, List.set_cons_succ])
        refine takeH 2 (some 58) (v := undef) rfl rfl (by kernel_rfl) (by kernel_rfl) (by kernel_rfl) (fun _ _ _ h => h) (Or.inr ⟨by kernel_rfl, rfl⟩) hHB ?_
        (try simp only [Act.put, List.setIfInBounds_toArray, List.set_cons_zero, List.set_cons_succ])
        refine takeH 3 (some 59) (v := undef) rfl rfl (by kernel_rfl) (by kernel_rfl) (by kernel_rfl) (fun _ _ _ h => h) (Or.inr ⟨by kernel_rfl, rfl⟩) hHB ?_
        (try simp only [Act.put, List.setIfInBounds_toArray, List.set_cons_zero, List.set_cons_succ])
        refine takeH 4 (some 60) (v := undef) rfl rfl (by kernel_rfl) (by kernel_rfl) (by kernel_rfl) (fun _ _ _ h => h) (Or.inr ⟨by kernel_rfl, rfl⟩) hHB ?_
        (try simp only [Act.put, List.setIfInBounds_toArray, List.set_cons_zero, List.set_cons_succ])
        refine takeH 5 (some 61) (v := undef) rfl rfl (by kernel_rfl) (by kernel_rfl) (by kernel_rfl) (fun _ _ _ h => h) (Or.inr ⟨by kernel_rfl, rfl⟩) hHB ?_
        (try simp only [Act.put, List.setIfInBounds_toArray, List.set_cons_zero, List.set_cons_succ])
        refine takeH 6 (some 62) (v := undef) rfl rfl (by kernel_rfl) (by kernel_rfl) (by kernel_rfl) (fun _ _ _ h => h) (Or.inr ⟨by kernel_rfl, rfl⟩) hHB ?_
        (try simp only [Act.put, List.setIfInBounds_toArray, List.set_cons_zero, List.set_cons_succ])
        refine takeH 7 (some 63) (v := undef) rfl rfl (by kernel_rfl) (by kernel_rfl) (by kernel_rfl) (fun _ _ _ h => h) (Or.inr ⟨by kernel_rfl, rfl⟩) hHB ?_
        (try simp only [Act.put, List.setIfInBounds_toArray, List.set_cons_zero, List.set_cons_succ])
        refine takeH 8 (some 64) (v := undef) rfl rfl (by kernel_rfl) (by kernel_rfl) (by kernel_rfl) (fun _ _ _ h => h) (Or.inr ⟨by kernel_rfl, rfl⟩) hHB ?_
        (try simp only [Act.put, List.setIfInBounds_toArray, List.set_cons_zero, List.set_cons_succ])
        refine takeH 9 (some 65) (v := undef) rfl rfl (by kernel_rfl) (by kernel_rfl) (by kernel_rfl) (fun _ _ _ h => h) (Or.inr ⟨by kernel_rfl, rfl⟩) hHB ?_
        (try simp only [Act.put, List.setIfInBounds_toArray, List.set_cons_zero, List.set_cons_succ])
        refine takeH 10 (some 66) (v := undef) rfl rfl (by kernel_rfl) (by kernel_rfl) (by kernel_rfl) (fun _ _ _ h => h) (Or.inr ⟨by kernel_rfl, rfl⟩) hHB ?_
        (try simp only [Act.put, List.setIfInBounds_toArray, List.set_cons_zero, List.set_cons_succ])
        refine takeH 11 (some 67) (v := undef) rfl rfl (by kernel_rfl) (by kernel_rfl) (by kernel_rfl) (fun _ _ _ h => h) (Or.inr ⟨by kernel_rfl, rfl⟩) hHB ?_
        (try simp only [Act.put, List.setIfInBounds_toArray, List.set_cons_zero, List.set_cons_succ])
        refine takeH 12 (some 68) (v := undef) rfl rfl (by kernel_rfl) (by kernel_rfl) (by kernel_rfl) (fun _ _ _ h => h) (Or.inr ⟨by kernel_rfl, rfl⟩) hHB ?_
        (try simp only [Act.put, List.setIfInBounds_toArray, List.set_cons_zero, List.set_cons_succ])
        refine takeH 13 (some 69) (v := undef) rfl rfl (by kernel_rfl) (by kernel_rfl) (by kernel_rfl) (fun _ _ _ h => h) (Or.inr ⟨by kernel_rfl, rfl⟩) hHB ?_
        (try simp only [Act.put, List.setIfInBounds_toArray, List.set_cons_zero, List.set_cons_succ])
        refine takeH 14 (some 70) (v := undef) rfl rfl (by kernel_rfl) (by kernel_rfl) (by kernel_rfl) (fun _ _ _ h => h) (Or.inr ⟨by kernel_rfl, rfl⟩) hHB ?_
        (try simp only [Act.put, List.setIfInBounds_toArray, List.set_cons_zero, List.set_cons_succ])
        refine takeH 15 (some 71) (v := undef) rfl rfl (by kernel_rfl) (by kernel_rfl) (by kernel_rfl) (fun _ _ _ h => h) (Or.inr ⟨by kernel_rfl, rfl⟩) hHB ?_
        (try simp only [Act.put, List.setIfInBounds_toArray, List.set_cons_zero, List.set_cons_succ])
        refine takeH 16 (some 72) (v := undef) rfl rfl (by kernel_rfl) (by kernel_rfl) (by kernel_rfl) (fun _ _ _ h => h) (Or.inr ⟨by kernel_rfl, rfl⟩) hHB ?_
        (try simp only [Act.put, List.setIfInBounds_toArray, List.set_cons_zero, List.set_cons_succ])
        refine takeH 17 (some 73) (v := undef) rfl rfl (by kernel_rfl) (by kernel_rfl) (by kernel_rfl) (fun _ _ _ h => h) (Or.inr ⟨by kernel_rfl, rfl⟩) hHB ?_
        (try simp only [Act.put, List.setIfInBounds_toArray, List.set_cons_zero, List.set_cons_succ])
        refine takeH 18 (some 74) (v := undef) rfl rfl (by kernel_rfl) (by kernel_rfl) (by kernel_rfl) (fun _ _ _ h => h) (Or.inr ⟨by kernel_rfl, rfl⟩) hHB ?_
        (try simp only [Act.put, List.setIfInBounds_toArray, List.set_cons_zero, List.set_cons_succ])
        refine takeH 19 (some 75) (v := ?_) rfl rfl (by kernel_rfl) (by kernel_rfl) (by kernel_rfl) (fun _ _ _ h => h) (Or.inl ⟨by kernel_rfl, ?_⟩) hHB ?_
        rotate_left
        · intro w' hSw
          obtain ⟨s0, s1, s2, s3, s4, s5, s6, s7⟩ := hSw.cells
          go_simp
          try with_reducible rfl
        (try simp only [Act.put, List.setIfInBounds_toArray, List.set_cons_zero, List.set_cons_succ])
        refine wpAnyH_done (by kernel_rfl) ?_ _
        have HSB := Lib.hid hHB
        go_wp2_with (go_at_call 11; refine (HAW.out _ HSB.out.2.1).mono ?_; rintro e w9 ⟨rfl, hb9⟩)
        go_ret
        exact ⟨rfl, btr HSB.out.2.1 hb9⟩
    | false =>
      refine wp_region_held (S := WiS W w6 S4 (S4 + 1) S6 (S6 + 1) a1 a2 b1 b2 c1 c2 d1 d2) (by kernel_rfl) ?_
      change wpAnyH _ _ _ _ _ _ _ _ (World.drew _)
      have hHA : (WiS W w6 S4 (S4 + 1) S6 (S6 + 1) a1 a2 b1 b2 c1 c2 d1 d2) (World.drew w6) := HS6.out.drew
      refine takeH 0 (some 36) (v := ?_) rfl rfl (by kernel_rfl) (by kernel_rfl) (by kernel_rfl) (fun _ _ _ h => h) (Or.inl ⟨by kernel_rfl, ?_⟩) hHA ?_
      rotate_left
      · intro w' hSw
        obtain ⟨s0, s1, s2, s3, s4, s5, s6, s7⟩ := hSw.cells
        go_simp
        try with_reducible rfl
      (try simp only [Act.put, List.setIfInBounds_toArray, List.set_cons_zero, List.set_cons_succ])
      refine takeH 1 (some 37) (v := ?_) rfl rfl (by kernel_rfl) (by kernel_rfl) (by kernel_rfl) (fun _ _ _ h => h) (Or.inl ⟨by kernel_rfl, ?_⟩) hHA ?_
      rotate_left
      · intro w' hSw
        obtain ⟨s0, s1, s2, s3, s4, s5, s6, s7⟩ := hSw.cells
        go_simp
        try with_reducible rfl
      (try simp only [Act.put, List.setIfInBounds_toArray, List.set_cons_zero, List.set_cons_succ])
      refine takeH 2 (some 38) (v := undef) rfl rfl (by kernel_rfl) (by kernel_rfl) (by kernel_rfl) (fun _ _ _ h => h) (Or.inr ⟨by kernel_rfl, rfl⟩) hHA ?_
      (try simp only [Act.put, List.setIfInBounds_toArray, List.set_cons_zero, List.set_cons_succ])
      refine takeH 3 (some 39) (v := undef) rfl rfl (by kernel_rfl) (by kernel_rfl) (by kernel_rfl) (fun _ _ _ h => h) (Or.inr ⟨by kernel_rfl, rfl⟩) hHA ?_
      (try simp only [Act.put, List.setIfInBounds_toArray, List.set_cons_zero, List.set_cons_succ])
      refine takeH 4 (some 40) (v := undef) rfl rfl (by kernel_rfl) (by kernel_rfl) (by kernel_rfl) (fun _ _ _ h => h) (Or.inr ⟨by kernel_rfl, rfl⟩) hHA ?_
      (try simp only [Act.put, List.setIfInBounds_toArray, List.set_cons_zero, List.set_cons_succ])
      refine takeH 5 (some 41) (v := undef) rfl rfl (by kernel_rfl) (by kernel_rfl) (by kernel_rfl) (fun _ _ _ h => h) (Or.inr ⟨by kernel_rfl, rfl⟩) hHA ?_
      (try simp only [Act.put, List.setIfInBounds_toArray, List.set_cons_zero, List.set_cons_succ])
      refine takeH 6 (some 42) (v := undef) rfl rfl (by kernel_rfl) (by kernel_rfl) (by kernel_rfl) (fun _ _ _ h => h) (Or.inr ⟨by kernel_rfl, rfl⟩) hHA ?_
      (try simp only [Act.put, List.setIfInBounds_toArray, List.set_cons_zero, List.set_cons_succ])
      refine takeH 7 (some 43) (v := undef) rfl rfl (by kernel_rfl) (by kernel_rfl) (by kernel_rfl) (fun _ _ _ h => h) (Or.inr ⟨by kernel_rfl, rfl⟩) hHA ?_
      (try simp only [Act.put, List.setIfInBounds_toArray, List.set_cons_zero, List.set_cons_succ])
      refine takeH 8 (some 44) (v := undef) rfl rfl (by kernel_rfl) (by kernel_rfl) (by kernel_rfl) (fun _ _ _ h => h) (Or.inr ⟨by kernel_rfl, rfl⟩) hHA ?_
      (try simp only [Act.put, List.setIfInBounds_toArray, List.set_cons_zero, List.set_cons_succ])
      refine takeH 9 (some 45) (v := undef) rfl rfl (by kernel_rfl) (by kernel_rfl) (by kernel_rfl) (fun _ _ _ h => h) (Or.inr ⟨by kernel_rfl, rfl⟩) hHA ?_
      (try simp only [Act.put, List.setIfInBounds_toArray, List.set_cons_zero, List.set_cons_succ])
      refine takeH 10 (some 46) (v := undef) rfl rfl (by kernel_rfl) (by kernel_rfl) (by kernel_rfl) (fun _ _ _ h => h) (Or.inr ⟨by kernel_rfl, rfl⟩) hHA ?_
      (try simp only [Act.put, List.setIfInBounds_toArray, List.set_cons_zero, List.set_cons_succ])
      refine takeH 11 (some 47) (v := undef) rfl rfl (by kernel_rfl) (by kernel_rfl) (by kernel_rfl) (fun _ _ _ h => h) (Or.inr ⟨by kernel_rfl, rfl⟩) hHA ?_
      (try simp only [Act.put, List.setIfInBounds_toArray, List.set_cons_zero, List.set_cons_succ])
      refine takeH 12 (some 48) (v := undef) rfl rfl (by kernel_rfl) (by kernel_rfl) (by kernel_rfl) (fun _ _ _ h => h) (Or.inr ⟨by kernel_rfl, rfl⟩) hHA ?_
      (try simp only [Act.put, List.setIfInBounds_toArray, List.set_cons_zero, List.set_cons_succ])
      refine takeH 13 (some 49) (v := undef) rfl rfl (by kernel_rfl) (by kernel_rfl) (by kernel_rfl) (fun _ _ _ h => h) (Or.inr ⟨by kernel_rfl, rfl⟩) hHA ?_
      (try simp only [Act.put, List.setIfInBounds_toArray, List.set_cons_zero, List.set_cons_succ])
      refine takeH 14 (some 50) (v := undef) rfl rfl (by kernel_rfl) (by kernel_rfl) (by kernel_rfl) (fun _ _ _ h => h) (Or.inr ⟨by kernel_rfl, rfl⟩) hHA ?_
      (try simp only [Act.put, List.setIfInBounds_toArray, List.set_cons_zero, List.set_cons_succ])
      refine takeH 15 (some 51) (v := undef) rfl rfl (by kernel_rfl) (by kernel_rfl) (by kernel_rfl) (fun _ _ _ h => h) (Or.inr ⟨by kernel_rfl, rfl⟩) hHA ?_
      (try simp only [Act.put, List.setIfInBounds_toArray, List.set_cons_zero, List.set_cons_succ])
      refine takeH 16 (some 52) (v := undef) rfl rfl (by kernel_rfl) (by kernel_rfl) (by kernel_rfl) (fun _ _ _ h => h) (Or.inr ⟨by kernel_rfl, rfl⟩) hHA ?_
      (try simp only [Act.put, List.setIfInBounds_toArray, List.set_cons_zero, List.set_cons_succ])
      refine takeH 17 (some 53) (v := undef) rfl rfl (by kernel_rfl) (by kernel_rfl) (by kernel_rfl) (fun _ _ _ h => h) (Or.inr ⟨by kernel_rfl, rfl⟩) hHA ?_
      (try simp only [Act.put, List.setIfInBounds_toArray, List.set_cons_zero, List.set_cons_succ])
      refine takeH 18 (some 54) (v := undef) rfl rfl (by kernel_rfl) (by kernel_rfl) (by kernel_rfl) (fun _ _ _ h => h) (Or.inr ⟨by kernel_rfl, rfl⟩) hHA ?_
      (try simp only [Act.put, List.setIfInBounds_toArray, List.set_cons_zero, List.set_cons_succ])
      refine takeH 19 (some 55) (v := ?_) rfl rfl (by kernel_rfl) (by kernel_rfl) (by kernel_rfl) (fun _ _ _ h => h) (Or.inl ⟨by kernel_rfl, ?_⟩) hHA ?_
      rotate_left
      · intro w' hSw
        obtain ⟨s0, s1, s2, s3, s4, s5, s6, s7⟩ := hSw.cells
        go_simp
        try with_reducible rfl
      (try simp only [Act.put, List.setIfInBounds_toArray, List.set_cons_zero, List.set_cons_succ])
      refine wpAnyH_done (by kernel_rfl) ?_ _
      have HSA := Lib.hid hHA
      clear hHA
      go_wp2_with fail
      cases is with
      | true =>
        obtain ⟨oc, od, ahB⟩ := FF2.out rfl
        refine wp_region_held (S := WiS W w6 S4 (S4 + 1) S6 (S6 + 1) a1 a2 b1 b2 c1 c2 d1 d2) (by kernel_rfl) ?_
        change wpAnyH _ _ _ _ _ _ _ _ (World.drew _)
        have hHB : (WiS W w6 S4 (S4 + 1) S6 (S6 + 1) a1 a2 b1 b2 c1 c2 d1 d2) (World.drew (World.drew w6)) := HSA.out.drew
        refine takeH 0 (some 56) (v := ?_) rfl rfl (by kernel_rfl) (by kernel_rfl) (by kernel_rfl) (fun _ _ _ h => h) (Or.inl ⟨by kernel_rfl, ?_⟩) hHB ?_
        rotate_left
        · intro w' hSw
          obtain ⟨s0, s1, s2, s3, s4, s5, s6, s7⟩ := hSw.cells
          go_simp
          try with_reducible rfl
        (try simp only [Act.put, List.setIfInBounds_toArray, List.set_cons_zero, List.set_cons_succ])
        refine takeH 1 (some 57) (v := ?_) rfl rfl (by kernel_rfl) (by kernel_rfl) (by kernel_rfl) (fun _ _ _ h => h) (Or.inl ⟨by kernel_rfl, ?_⟩) hHB ?_
        rotate_left
        · intro w' hSw
          obtain ⟨s0, s1, s2, s3, s4, s5, s6, s7⟩ := hSw.cells
          go_simp
          try with_reducible rfl
        (try simp only [Act.put, List.setIfInBounds_toArray, List.set_cons_zero, List.set_cons_succ])
        refine takeH 2 (some 58) (v := ?_) rfl rfl (by kernel_rfl) (by kernel_rfl) (by kernel_rfl) (fun _ _ _ h => h) (Or.inl ⟨by kernel_rfl, ?_⟩) hHB ?_
        rotate_left
        · intro w' hSw
          obtain ⟨s0, s1, s2, s3, s4, s5, s6, s7⟩ := hSw.cells
          go_simp
          try with_reducible rfl
        (try simp only [Act.put, List.setIfInBounds_toArray, List.set_cons_zero, List.set_cons_succ])
        refine takeH 3 (some 59) (v := ?_) rfl rfl (by kernel_rfl) (by kernel_rfl) (by kernel_rfl) (fun _ _ _ h => h) (Or.inl ⟨by kernel_rfl, ?_⟩) hHB ?_
        rotate_left
        · intro w' hSw
          obtain ⟨s0, s1, s2, s3, s4, s5, s6, s7⟩ := hSw.cells
          go_simp
          try with_reducible rfl
        (try simp only [Act.put, List.setIfInBounds_toArray, List.set_cons_zero, List.set_cons_succ])
        refine takeH 5 (some 61) (v := ?_) rfl rfl (by kernel_rfl) (by kernel_rfl) (by kernel_rfl) (fun _ _ _ h => h) (Or.inl ⟨by kernel_rfl, ?_⟩) hHB ?_
        rotate_left
        · intro w' hSw
          obtain ⟨s0, s1, s2, s3, s4, s5, s6, s7⟩ := hSw.cells
          go_simp
          try with_reducible rfl
        (try simp only [Act.put, List.setIfInBounds_toArray, List.set_cons_zero, List.set_cons_succ])
        refine callH 4 (some 60) (f := 12) (args := ?_) rfl rfl (by kernel_rfl) (by kernel_rfl) ?_ ?_
        rotate_left
        · go_simp
          try with_reducible rfl
        refine (HCL.out c1 c2 _ oc hHB.2.1).mono ?_
        rintro e vB1 ⟨rfl, hbB1⟩
        have hHB1 := hHB.below hbB1
        refine ⟨_, rfl, hHB1, ?_⟩
        (try simp only [Act.put, List.setIfInBounds_toArray, List.set_cons_zero, List.set_cons_succ])
        refine takeH 6 (some 62) (v := ?_) rfl rfl (by kernel_rfl) (by kernel_rfl) (by kernel_rfl) (fun _ _ _ h => h) (Or.inl ⟨by kernel_rfl, ?_⟩) hHB1 ?_
        rotate_left
        · intro w' hSw
          obtain ⟨s0, s1, s2, s3, s4, s5, s6, s7⟩ := hSw.cells
          go_simp
          try with_reducible rfl
        (try simp only [Act.put, List.setIfInBounds_toArray, List.set_cons_zero, List.set_cons_succ])
        refine takeH 7 (some 63) (v := ?_) rfl rfl (by kernel_rfl) (by kernel_rfl) (by kernel_rfl) (fun _ _ _ h => h) (Or.inl ⟨by kernel_rfl, ?_⟩) hHB1 ?_
        rotate_left
        · intro w' hSw
          obtain ⟨s0, s1, s2, s3, s4, s5, s6, s7⟩ := hSw.cells
          go_simp
          try with_reducible rfl
        (try simp only [Act.put, List.setIfInBounds_toArray, List.set_cons_zero, List.set_cons_succ])
        refine takeH 8 (some 64) (v := ?_) rfl rfl (by kernel_rfl) (by kernel_rfl) (by kernel_rfl) (fun _ _ _ h => h) (Or.inl ⟨by kernel_rfl, ?_⟩) hHB1 ?_
        rotate_left
        · intro w' hSw
          obtain ⟨s0, s1, s2, s3, s4, s5, s6, s7⟩ := hSw.cells
          go_simp
          try with_reducible rfl
        (try simp only [Act.put, List.setIfInBounds_toArray, List.set_cons_zero, List.set_cons_succ])
        refine takeH 9 (some 65) (v := ?_) rfl rfl (by kernel_rfl) (by kernel_rfl) (by kernel_rfl) (fun _ _ _ h => h) (Or.inl ⟨by kernel_rfl, ?_⟩) hHB1 ?_
        rotate_left
        · intro w' hSw
          obtain ⟨s0, s1, s2, s3, s4, s5, s6, s7⟩ := hSw.cells
          go_simp
          try with_reducible rfl
        (try simp only [Act.put, List.setIfInBounds_toArray, List.set_cons_zero, List.set_cons_succ])
        refine takeH 11 (some 67) (v := ?_) rfl rfl (by kernel_rfl) (by kernel_rfl) (by kernel_rfl) (fun _ _ _ h => h) (Or.inl ⟨by kernel_rfl, ?_⟩) hHB1 ?_
        rotate_left
        · intro w' hSw
          obtain ⟨s0, s1, s2, s3, s4, s5, s6, s7⟩ := hSw.cells
          go_simp
          try with_reducible rfl
        (try simp only [Act.put, List.setIfInBounds_toArray, List.set_cons_zero, List.set_cons_succ])
        refine callH 10 (some 66) (f := 12) (args := ?_) rfl rfl (by kernel_rfl) (by kernel_rfl) ?_ ?_
        rotate_left
        · go_simp
          try with_reducible rfl
        refine (HCL.out d1 d2 _ od hHB1.2.1).mono ?_
        rintro e vB2 ⟨rfl, hbB2⟩
        have hHB12 := hHB1.below hbB2
        refine ⟨_, rfl, hHB12, ?_⟩
        (try simp only [Act.put, List.setIfInBounds_toArray, List.set_cons_zero, List.set_cons_succ])
        refine takeH 12 (some 68) (v := ?_) rfl rfl (by kernel_rfl) (by kernel_rfl) (by kernel_rfl) (fun _ _ _ h => h) (Or.inl ⟨by kernel_rfl, ?_⟩) hHB12 ?_
        rotate_left
        · intro w' hSw
          obtain ⟨s0, s1, s2, s3, s4, s5, s6, s7⟩ := hSw.cells
          go_simp
          try with_reducible rfl
        (try simp only [Act.put, List.setIfInBounds_toArray, List.set_cons_zero, List.set_cons_succ])
        refine takeH 13 (some 69) (v := ?_) rfl rfl (by kernel_rfl) (by kernel_rfl) (by kernel_rfl) (fun _ _ _ h => h) (Or.inl ⟨by kernel_rfl, ?_⟩) hHB12 ?_
        rotate_left
        · intro w' hSw
          obtain ⟨s0, s1, s2, s3, s4, s5, s6, s7⟩ := hSw.cells
          go_simp
          try with_reducible rfl
        (try simp only [Act.put, List.setIfInBounds_toArray, List.set_cons_zero, List.set_cons_succ])
        refine takeH 14 (some 70) (v := ?_) rfl rfl (by kernel_rfl) (by kernel_rfl) (by kernel_rfl) (fun _ _ _ h => h) (Or.inl ⟨by kernel_rfl, ?_⟩) hHB12 ?_
        rotate_left
        · intro w' hSw
          obtain ⟨s0, s1, s2, s3, s4, s5, s6, s7⟩ := hSw.cells
          go_simp
          try with_reducible rfl
        (try simp only [Act.put, List.setIfInBounds_toArray, List.set_cons_zero, List.set_cons_succ])
        refine takeH 15 (some 71) (v := ?_) rfl rfl (by kernel_rfl) (by kernel_rfl) (by kernel_rfl) (fun _ _ _ h => h) (Or.inl ⟨by kernel_rfl, ?_⟩) hHB12 ?_
        rotate_left
        · intro w' hSw
          obtain ⟨s0, s1, s2, s3, s4, s5, s6, s7⟩ := hSw.cells
          go_simp
          try with_reducible rfl
        (try simp only [Act.put, List.setIfInBounds_toArray, List.set_cons_zero, List.set_cons_succ])
        refine takeH 16 (some 72) (v := ?_) rfl rfl (by kernel_rfl) (by kernel_rfl) (by kernel_rfl) (fun _ _ _ h => h) (Or.inl ⟨by kernel_rfl, ?_⟩) hHB12 ?_
        rotate_left
        · intro w' hSw
          obtain ⟨s0, s1, s2, s3, s4, s5, s6, s7⟩ := hSw.cells
          go_simp
          try with_reducible rfl
        (try simp only [Act.put, List.setIfInBounds_toArray, List.set_cons_zero, List.set_cons_succ])
        refine callH 17 (some 73) (f := 13) (args := ?_) rfl rfl (by kernel_rfl) (by kernel_rfl) ?_ ?_
        rotate_left
        · go_simp
          try with_reducible rfl
        refine (HAH.out d1 d2 c1 c2 _).mono ?_
        rintro e vB3 ⟨rfl, hbB3⟩
        have hHB123 := hHB12.below hbB3
        rw [ahB]
        refine ⟨_, rfl, hHB123, ?_⟩
        (try simp only [Act.put, List.setIfInBounds_toArray, List.set_cons_zero, List.set_cons_succ])
        refine takeH 18 (some 74) (v := ?_) rfl rfl (by kernel_rfl) (by kernel_rfl) (by kernel_rfl) (fun _ _ _ h => h) (Or.inl ⟨by kernel_rfl, ?_⟩) hHB123 ?_
        rotate_left
        · intro w' hSw
          obtain ⟨s0, s1, s2, s3, s4, s5, s6, s7⟩ := hSw.cells
          go_simp
          try with_reducible rfl
        (try simp only [Act.put, List.setIfInBounds_toArray, List.set_cons_zero, List.set_cons_succ])
        refine takeH 19 (some 75) (v := ?_) rfl rfl (by kernel_rfl) (by kernel_rfl) (by kernel_rfl) (fun _ _ _ h => h) (Or.inl ⟨by kernel_rfl, ?_⟩) hHB123 ?_
        rotate_left
        · intro w' hSw
          obtain ⟨s0, s1, s2, s3, s4, s5, s6, s7⟩ := hSw.cells
          go_simp
          try with_reducible rfl
        (try simp only [Act.put, List.setIfInBounds_toArray, List.set_cons_zero, List.set_cons_succ])
        refine wpAnyH_done (by kernel_rfl) ?_ _
        have HSB := Lib.hid hHB123
        go_wp2_with (go_at_call 11; refine (HAW.out _ HSB.out.2.1).mono ?_; rintro e w9 ⟨rfl, hb9⟩)
        go_ret
        exact ⟨rfl, btr HSB.out.2.1 hb9⟩
      | false =>
        refine wp_region_held (S := WiS W w6 S4 (S4 + 1) S6 (S6 + 1) a1 a2 b1 b2 c1 c2 d1 d2) (by kernel_rfl) ?_
        change wpAnyH _ _ _ _ _ _ _ _ (World.drew _)
        have hHB : (WiS W w6 S4 (S4 + 1) S6 (S6 + 1) a1 a2 b1 b2 c1 c2 d1 d2) (World.drew (World.drew w6)) := HSA.out.drew
        refine takeH 0 (some 56) (v := ?_) rfl rfl (by kernel_rfl) (by kernel_rfl) (by kernel_rfl) (fun _ _ _ h => h) (Or.inl ⟨by kernel_rfl, ?_⟩) hHB ?_
        rotate_left
        · intro w' hSw
          obtain ⟨s0, s1, s2, s3, s4, s5, s6, s7⟩ := hSw.cells
          go_simp
          try with_reducible rfl
        (try simp only [Act.put, List.setIfInBounds_toArray, List.set_cons_zero, List.set_cons_succ])
        refine takeH 1 (some 57) (v := ?_) rfl rfl (by kernel_rfl) (by kernel_rfl) (by kernel_rfl) (fun _ _ _ h => h) (Or.inl ⟨by kernel_rfl, ?_⟩) hHB ?_
        rotate_left
        · intro w' hSw
          obtain ⟨s0, s1, s2, s3, s4, s5, s6, s7⟩ := hSw.cells
          go_simp
          try with_reducible rfl
        (try simp only [Act.put, List.setIfInBounds_toArray, List.set_cons_zero, List.set_cons_succ])
        refine takeH 2 (some 58) (v := undef) rfl rfl (by kernel_rfl) (by kernel_rfl) (by kernel_rfl) (fun _ _ _ h => h) (Or.inr ⟨by kernel_rfl, rfl⟩) hHB ?_
        (try simp only [Act.put, List.setIfInBounds_toArray, List.set_cons_zero, List.set_cons_succ])
        refine takeH 3 (some 59) (v := undef) rfl rfl (by kernel_rfl) (by kernel_rfl) (by kernel_rfl) (fun _ _ _ h => h) (Or.inr ⟨by kernel_rfl, rfl⟩) hHB ?_
        (try simp only [Act.put, List.setIfInBounds_toArray, List.set_cons_zero, List.set_cons_succ])
        refine takeH 4 (some 60) (v := undef) rfl rfl (by kernel_rfl) (by kernel_rfl) (by kernel_rfl) (fun _ _ _ h => h) (Or.inr ⟨by kernel_rfl, rfl⟩) hHB ?_
        (try simp only [Act.put, List.setIfInBounds_toArray, List.set_cons_zero, List.set_cons_succ])
        refine takeH 5 (some 61) (v := undef) rfl rfl (by kernel_rfl) (by kernel_rfl) (by kernel_rfl) (fun _ _ _ h => h) (Or.inr ⟨by kernel_rfl, rfl⟩) hHB ?_
        (try simp only [Act.put, List.setIfInBounds_toArray, List.set_cons_zero, List.set_cons_succ])
        refine takeH 6 (some 62) (v := undef) rfl rfl (by kernel_rfl) (by kernel_rfl) (by kernel_rfl) (fun _ _ _ h => h) (Or.inr ⟨by kernel_rfl, rfl⟩) hHB ?_
        (try simp only [Act.put, List.setIfInBounds_toArray, List.set_cons_zero, List.set_cons_succ])
        refine takeH 7 (some 63) (v := undef) rfl rfl (by kernel_rfl) (by kernel_rfl) (by kernel_rfl) (fun _ _ _ h => h) (Or.inr ⟨by kernel_rfl, rfl⟩) hHB ?_
        (try simp only [Act.put, List.setIfInBounds_toArray, List.set_cons_zero, List.set_cons_succ])
        refine takeH 8 (some 64) (v := undef) rfl rfl (by kernel_rfl) (by kernel_rfl) (by kernel_rfl) (fun _ _ _ h => h) (Or.inr ⟨by kernel_rfl, rfl⟩) hHB ?_
        (try simp only [Act.put, List.setIfInBounds_toArray, List.set_cons_zero, List.set_cons_succ])
        refine takeH 9 (some 65) (v := undef) rfl rfl (by kernel_rfl) (by kernel_rfl) (by kernel_rfl) (fun _ _ _ h => h) (Or.inr ⟨by kernel_rfl, rfl⟩) hHB ?_
        (try simp only [Act.put, List.setIfInBounds_toArray, List.set_cons_zero, List.set_cons_succ])
        refine takeH 10 (some 66) (v := undef) rfl rfl (by kernel_rfl) (by kernel_rfl) (by kernel_rfl) (fun _ _ _ h => h) (Or.inr ⟨by kernel_rfl, rfl⟩) hHB ?_
        (try simp only [Act.put, List.setIfInBounds_toArray, List.set_cons_zero, List.set_cons_succ])
        refine takeH 11 (some 67) (v := undef) rfl rfl (by kernel_rfl) (by kernel_rfl) (by kernel_rfl) (fun _ _ _ h => h) (Or.inr ⟨by kernel_rfl, rfl⟩) hHB ?_
        (try simp only [Act.put, List.setIfInBounds_toArray, List.set_cons_zero, List.set_cons_succ])
        refine takeH 12 (some 68) (v := undef) rfl rfl (by kernel_rfl) (by kernel_rfl) (by kernel_rfl) (fun _ _ _ h => h) (Or.inr ⟨by kernel_rfl, rfl⟩) hHB ?_
        (try simp only [Act.put, List.setIfInBounds_toArray, List.set_cons_zero, List.set_cons_succ])
        refine takeH 13 (some 69) (v := undef) rfl rfl (by kernel_rfl) (by kernel_rfl) (by kernel_rfl) (fun _ _ _ h => h) (Or.inr ⟨by kernel_rfl, rfl⟩) hHB ?_
        (try simp only [Act.put, List.setIfInBounds_toArray, List.set_cons_zero, List.set_cons_succ])
        refine takeH 14 (some 70) (v := undef) rfl rfl (by kernel_rfl) (by kernel_rfl) (by kernel_rfl) (fun _ _ _ h => h) (Or.inr ⟨by kernel_rfl, rfl⟩) hHB ?_
        (try simp only [Act.put, List.setIfInBounds_toArray, List.set_cons_zero, List.set_cons_succ])
        refine takeH 15 (some 71) (v := undef) rfl rfl (by kernel_rfl) (by kernel_rfl) (by kernel_rfl) (fun _ _ _ h => h) (Or.inr ⟨by kernel_rfl, rfl⟩) hHB ?_
        (try simp only [Act.put, List.setIfInBounds_toArray, List.set_cons_zero, List.set_cons_succ])
        refine takeH 16 (some 72) (v := undef) rfl rfl (by kernel_rfl) (by kernel_rfl) (by kernel_rfl) (fun _ _ _ h => h) (Or.inr ⟨by kernel_rfl, rfl⟩) hHB ?_
        (try simp only [Act.put, List.setIfInBounds_toArray, List.set_cons_zero, List.set_cons_succ])
        refine takeH 17 (some 73) (v := undef) rfl rfl (by kernel_rfl) (by kernel_rfl) (by kernel_rfl) (fun _ _ _ h => h) (Or.inr ⟨by kernel_rfl, rfl⟩) hHB ?_
        (try simp only [Act.put, List.setIfInBounds_toArray, List.set_cons_zero, List.set_cons_succ])
        refine takeH 18 (some 74) (v := undef) rfl rfl (by kernel_rfl) (by kernel_rfl) (by kernel_rfl) (fun _ _ _ h => h) (Or.inr ⟨by kernel_rfl, rfl⟩) hHB ?_
        (try simp only [Act.put, List.setIfInBounds_toArray, List.set_cons_zero, List.set_cons_succ])
        refine takeH 19 (some 75) (v := ?_) rfl rfl (by kernel_rfl) (by kernel_rfl) (by kernel_rfl) (fun _ _ _ h => h) (Or.inl ⟨by kernel_rfl, ?_⟩) hHB ?_
        rotate_left
        · intro w' hSw
          obtain ⟨s0, s1, s2, s3, s4, s5, s6, s7⟩ := hSw.cells
          go_simp
          try with_reducible rfl
        (try simp only [Act.put, List.setIfInBounds_toArray, List.set_cons_zero, List.set_cons_succ])
        refine wpAnyH_done (by kernel_rfl) ?_ _
        have HSB := Lib.hid hHB
        go_wp2_with (go_at_call 11; refine (HAW.out _ HSB.out.2.1).mono ?_; rintro e w9 ⟨rfl, hb9⟩)
        go_ret
        exact ⟨rfl, btr HSB.out.2.1 hb9⟩
end Go.Proofs.YthlhgkeodaifcaaDoor.U
