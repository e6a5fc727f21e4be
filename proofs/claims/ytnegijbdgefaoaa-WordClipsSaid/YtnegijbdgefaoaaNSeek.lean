/-
  The document's Behind, Before. (MADE by wip/tools/gen_seek.py.)
-/
import Derived.Test.YtnegijbdgefaoaaNPl
import Derived.Test.YtnegijbdgefaoaaRHand
namespace Go.Proofs.Ytnegijbdgefaoaa.U
open Go.RowKit
set_option linter.unusedVariables false
set_option linter.unusedSimpArgs false
set_option maxRecDepth 100000

theorem find_drop {P : List Pl} {i : Nat} {x : Pl} (h : P[i]? = some x) (f : Pl → Bool) : (P.drop i).find? f = if f x = true then some x else (P.drop (i + 1)).find? f := by
  have hi := (List.getElem?_eq_some_iff.1 h).1
  rw [List.drop_eq_getElem_cons hi, (List.getElem?_eq_some_iff.1 h).2, List.find?_cons]
  cases f x <;> simp
theorem find_take {P : List Pl} {k : Nat} {x : Pl} (h : P[k]? = some x) (f : Pl → Bool) : (P.take (k + 1)).reverse.find? f = if f x = true then some x else (P.take k).reverse.find? f := by
  have hi := (List.getElem?_eq_some_iff.1 h).1
  rw [List.take_succ_eq_append_getElem hi, (List.getElem?_eq_some_iff.1 h).2, List.reverse_append, List.reverse_singleton, List.singleton_append, List.find?_cons]
  cases f x <;> simp

set_option maxHeartbeats 1000000 in
theorem rbehind_any (F : Nat → Prop) (a : Option Addr) (n c : Nat) (L : List (List Int)) (q : Po) (kd : Int) (w : World) (h : RdL F w a n c L) (hq : i64p q) (hs : sizeN (lens L) ≤ 262144) (hk0 : 0 ≤ kd) (hk6 : kd ≤ 6) :
    Calls Try.prog 17 #[.slice a n c, q.v, .int .i64 kd] w fun e w' => e = .returned (plV (behindP L kd (clipP L q.l q.c))) ∧ Below w.heap.size w w' := by
  have hsm := h.small
  have hl := h.len
  have hplen := places_len L
  have hokm : ∀ x ∈ places L, okP L x := fun x hx => places_mem.1 hx
  have HCL : Hid (∀ W : World, Below w.heap.size w W → Calls Try.prog 9 #[.slice a n c, q.v] W fun e w' => e = .returned (plV (clipP L q.l q.c)) ∧ Below W.heap.size W w') := fun W hW => rclip_any F a n c L q W (h.below hW) hq
  have HPC : Hid (∀ W : World, Below w.heap.size w W → Calls Try.prog 25 #[.slice a n c] W fun e w' => ∃ a' n' c', e = .returned (.slice a' n' c') ∧ Hid (RdP w' a' n' c' (places L) ∧ Below W.heap.size W w')) := fun W hW => rplaces_any F a n c L W (h.below hW) hs
  have HLC : Hid (∀ W : World, Below w.heap.size w W → Calls Try.prog 12 #[.slice a n c] W fun e w' => e = .returned (plV (lastP L)) ∧ Below W.heap.size W w') := fun W hW => rlast_any F a n c L W (h.below hW) hs
  have HAC : Hid (∀ (p x : Pl) (W : World), Calls Try.prog 27 #[plV p, plV x] W fun e w' => e = .returned (.bool (aheadP p x)) ∧ Below W.heap.size W w') := fun p x W => rahead_any p x W
  have HIC : Hid (∀ (x : Pl) (W : World), x ∈ places L → Below w.heap.size w W → Calls Try.prog 36 #[.slice a n c, plV x, .int .i64 kd] W fun e w' => e = .returned (.bool (isK L kd x)) ∧ Below W.heap.size W w') := fun x W hx hW => ris_any F a n c L x kd W (h.below hW) (hokm x hx) hk0 hk6
  unfold behindP
  obtain ⟨cp, hcp⟩ : ∃ cp, clipP L q.l q.c = cp := ⟨_, rfl⟩
  obtain ⟨P, hP⟩ : ∃ P, places L = P := ⟨_, rfl⟩
  obtain ⟨lp, hlp⟩ : ∃ lp, lastP L = lp := ⟨_, rfl⟩
  rw [hcp, hP, hlp]
  rw [hcp] at HCL
  rw [hP] at HPC HIC hplen
  rw [hlp] at HLC
  obtain ⟨f, hf⟩ : ∃ f : Pl → Bool, (fun x => aheadP cp x && isK L kd x) = f := ⟨_, rfl⟩
  rw [hf]
  obtain ⟨res, hres⟩ : ∃ res, (P.find? f).getD lp = res := ⟨_, rfl⟩
  rw [hres]
  have HF : Hid (∀ x, f x = (aheadP cp x && isK L kd x)) := fun x => by rw [← hf]
  have HRES := Lib.hid hres
  obtain ⟨u, v⟩ := q
  obtain ⟨ci, cj⟩ := cp
  obtain ⟨w1, hw1⟩ : ∃ w1, (w.alloc (.cells #[.int .i64 u, .int .i64 v] 24)).alloc (.cells #[.int .i64 0, .int .i64 0] 24) = w1 := ⟨_, rfl⟩
  have hb1 : Below w.heap.size w w1 := by rw [← hw1]; exact ((Below.refl _ w).alloc (Nat.le_refl _) _).alloc (by simp) _
  have g1 : w1.heap[w.heap.size]? = some (.cells #[.int .i64 u, .int .i64 v] 24 (0, 0)) := by
    rw [← hw1, ((Below.refl _ (w.alloc _)).alloc (Nat.le_refl _) _).block _ (by simp)]
    exact heap_alloc_new w _
  have g2 : w1.heap[w.heap.size + 1]? = some (.cells #[.int .i64 0, .int .i64 0] 24 (0, 0)) := by
    rw [← hw1]
    have := heap_alloc_new (w.alloc (.cells #[.int .i64 u, .int .i64 v] 24)) (.cells #[.int .i64 0, .int .i64 0] 24)
    simpa using this
  have HOPC : Hid (∀ (e : Ending) (w2 : World), (e = .returned (plV (ci, cj)) ∧ Below w1.heap.size w1 w2) → ∃ w3, e = .returned (.agg #[.int .i64 (ci : Nat), .int .i64 (cj : Nat)]) ∧ (w2.setCell ⟨w.heap.size, 0, none⟩ (.int .i64 (ci : Nat))).setCell ⟨w.heap.size, 1, none⟩ (.int .i64 (cj : Nat)) = w3 ∧ (w2.frozen? ⟨w.heap.size, 0, none⟩ = false ∧ w2.frozen? ⟨w.heap.size, 1, none⟩ = false ∧ w2.cell? ⟨w.heap.size, 0, none⟩ = some (.int .i64 u) ∧ w2.cell? ⟨w.heap.size, 1, none⟩ = some (.int .i64 v)) ∧
      Hid (Below w.heap.size w w3 ∧ w3.heap[w.heap.size]? = some (.cells #[.int .i64 (ci : Nat), .int .i64 (cj : Nat)] 24 (0, 0)) ∧ w3.heap[w.heap.size + 1]? = some (.cells #[.int .i64 0, .int .i64 0] 24 (0, 0)))) := by
    rintro e w2 ⟨rfl, hb2⟩
    have k1 := (hb2.block _ (heap_lt g1)).trans g1
    have k2 := (hb2.block _ (heap_lt g2)).trans g2
    obtain ⟨x0, x1, x2, x3⟩ := row2 k1
    refine ⟨_, rfl, rfl, ⟨x2, x3, x0, x1⟩, ?_, ?_, ?_⟩
    · exact setCell_below (setCell_below (hb1.trans (hb2.mono hb1.size)) _ _ _ (Nat.le_refl _)) _ _ _ (Nat.le_refl _)
    · have k3 := heap_set k1 0 (.int .i64 (ci : Nat))
      exact heap_set k3 1 (.int .i64 (cj : Nat))
    · rw [Below.heap_setCell _ _ _ _ (by show ¬ _ = _; simp), Below.heap_setCell _ _ _ _ (by show ¬ _ = _; simp)]
      exact k2
  obtain ⟨a0, a1, z0, z1⟩ := row2 g1
  have HW1 := Lib.hid hw1
  have HB1 := Lib.hid hb1
  have HPL := Lib.hid hP
  have hPs : P.length ≤ 262144 := by omega
  have HPS := Lib.hid hPs
  clear h hq hs hl hplen hokm hcp hP hlp hf hres hw1 hb1 g1 g2 hPs
  show Calls Try.prog 17 #[.slice a n c, .agg #[.int .i64 u, .int .i64 v], .int .i64 kd] w _
  go_enter Try.func17, Try.ntmps17
  go_upto_region 1 with fail
  rw [HW1.out]
  go_wp2_with (first
    | (go_at_call 9; refine (HCL.out _ HB1.out).mono ?_; intro e w2 hh; obtain ⟨w3, he, hw3, ⟨y0, y1, y2, y3⟩, H3⟩ := HOPC.out e w2 hh; subst he; clear hh)
    | (go_at_call 25; refine (HPC.out w3 H3.out.1).mono ?_; rintro e w4 ⟨a4, N, c4, rfl, H4⟩; have hN := H4.out.1.len; have HN := Lib.hid hN; have hNs : N ≤ 262144 := (hN ▸ HPS.out); clear hN))
  clear y0 y1 y2 y3 a0 a1 z0 z1
  have H4B : Hid (Below w.heap.size w w4 ∧ w4.heap[w.heap.size]? = some (.cells #[.int .i64 (ci : Nat), .int .i64 (cj : Nat)] 24 (0, 0)) ∧ w4.heap[w.heap.size + 1]? = some (.cells #[.int .i64 0, .int .i64 0] 24 (0, 0))) :=
    ⟨H3.out.1.trans (H4.out.2.mono H3.out.1.size), (H4.out.2.block _ (heap_lt H3.out.2.1)).trans H3.out.2.1, (H4.out.2.block _ (heap_lt H3.out.2.2)).trans H3.out.2.2⟩
  go_loopw [8] (fun iv wr => ∃ i : Nat, i ≤ N ∧ iv = .int .i64 (i : Nat) ∧ Hid (Below w4.heap.size w4 wr ∧ ((P.drop i).find? f).getD lp = res)) (fun iv _ => N - (intOf iv).toNat)
  case atStart => exact ⟨0, Nat.zero_le _, rfl, Below.refl _ _, HRES.out⟩
  case round =>
    obtain ⟨i, hi, rfl, HI⟩ := hrel
    by_cases hlt : i < N
    · 

      obtain ⟨x, hx⟩ : ∃ x, P[i]? = some x := ⟨P[i]'(by have := HN.out; omega), List.getElem?_eq_getElem _⟩
      have hxm : x ∈ P := List.mem_of_getElem? hx
      have hfd := find_drop hx f
      rw [HF.out x] at hfd
      obtain ⟨b, off, rfl, hbl, c0, c1⟩ := H4.out.1.get HI.out.1 hx
      have hbw : Below w.heap.size w wr := (H4B.out.1.trans (HI.out.1.mono H4B.out.1.size))
      have g1 := (HI.out.1.block _ (heap_lt H4B.out.2.1)).trans H4B.out.2.1
      have g2 := (HI.out.1.block _ (heap_lt H4B.out.2.2)).trans H4B.out.2.2
      obtain ⟨d0, d1, -, -⟩ := row2 g1
      obtain ⟨b1, hb1⟩ : ∃ b1, aheadP (ci, cj) x = b1 := ⟨_, rfl⟩
      obtain ⟨b2, hb2⟩ : ∃ b2, isK L kd x = b2 := ⟨_, rfl⟩
      rw [hb1, hb2] at hfd
      have hblr : b < wr.heap.size := block_lt_of_cell c0
      obtain ⟨xi, xj⟩ := x
      simp only at c0 c1
      have HAH : Hid (∀ W : World, Below wr.heap.size wr W → Calls Try.prog 27 #[.agg #[.int .i64 (ci : Nat), .int .i64 (cj : Nat)], .agg #[.int .i64 (xi : Nat), .int .i64 (xj : Nat)]] W fun e w' => e = .returned (.bool b1) ∧ Below wr.heap.size wr w' ∧ w'.cell? ⟨b, off + i * 2, none⟩ = some (.int .i64 (xi : Nat)) ∧ w'.cell? ⟨b, off + i * 2 + 1, none⟩ = some (.int .i64 (xj : Nat)) ∧ w'.cell? ⟨w.heap.size, 0, none⟩ = some (.int .i64 (ci : Nat)) ∧ w'.cell? ⟨w.heap.size, 1, none⟩ = some (.int .i64 (cj : Nat))) := by
        intro W hW
        have := HAC.out (ci, cj) (xi, xj) W
        rw [hb1] at this
        refine this.mono ?_
        rintro e w' ⟨rfl, hb⟩
        have h2 := hW.trans (hb.mono hW.size)
        exact ⟨rfl, h2, (h2.cell (p := ⟨b, off + i * 2, none⟩) hblr).trans c0, (h2.cell (p := ⟨b, off + i * 2 + 1, none⟩) hblr).trans c1, (h2.cell (p := ⟨w.heap.size, 0, none⟩) (heap_lt g1)).trans d0, (h2.cell (p := ⟨w.heap.size, 1, none⟩) (heap_lt g1)).trans d1⟩
      have HIS : Hid (∀ W : World, Below wr.heap.size wr W → Calls Try.prog 36 #[.slice a n c, .agg #[.int .i64 (xi : Nat), .int .i64 (xj : Nat)], .int .i64 kd] W fun e w' => e = .returned (.bool b2) ∧ Below wr.heap.size wr w' ∧ w'.cell? ⟨b, off + i * 2, none⟩ = some (.int .i64 (xi : Nat)) ∧ w'.cell? ⟨b, off + i * 2 + 1, none⟩ = some (.int .i64 (xj : Nat)) ∧ w'.cell? ⟨w.heap.size, 0, none⟩ = some (.int .i64 (ci : Nat)) ∧ w'.cell? ⟨w.heap.size, 1, none⟩ = some (.int .i64 (cj : Nat)) ∧ Hid (w'.heap[w.heap.size + 1]? = some (.cells #[.int .i64 0, .int .i64 0] 24 (0, 0)))) := by
        intro W hW
        have := HIC.out (xi, xj) W hxm (hbw.trans (hW.mono hbw.size))
        rw [hb2] at this
        refine this.mono ?_
        rintro e w' ⟨rfl, hb⟩
        have h2 := hW.trans (hb.mono hW.size)
        exact ⟨rfl, h2, (h2.cell (p := ⟨b, off + i * 2, none⟩) hblr).trans c0, (h2.cell (p := ⟨b, off + i * 2 + 1, none⟩) hblr).trans c1, (h2.cell (p := ⟨w.heap.size, 0, none⟩) (heap_lt g1)).trans d0, (h2.cell (p := ⟨w.heap.size, 1, none⟩) (heap_lt g1)).trans d1, (h2.block _ (heap_lt g2)).trans g2⟩
      have HFD := Lib.hid hfd
      have HBW := Lib.hid hbw
      have hin : i < N := hlt
      clear hfd hxm hx g1 g2 hbl hblr hbw hb1 hb2
      cases b1 with
      | false =>
        have HNX : Hid (((P.drop (i + 1)).find? f).getD lp = res) := by
          show _ = _
          rw [← HI.out.2, HFD.out]; rfl
        go_wp2_with fail
        refine wp_region_held (S := fun w' => w'.cell? ⟨b, off + i * 2, none⟩ = some (.int .i64 (xi : Nat)) ∧ w'.cell? ⟨b, off + i * 2 + 1, none⟩ = some (.int .i64 (xj : Nat)) ∧ w'.cell? ⟨w.heap.size, 0, none⟩ = some (.int .i64 (ci : Nat)) ∧ w'.cell? ⟨w.heap.size, 1, none⟩ = some (.int .i64 (cj : Nat))) (by kernel_rfl) ?_
        change wpAnyH _ _ _ _ _ _ _ _ (World.drew _)
        have hHeld : (fun w' => w'.cell? ⟨b, off + i * 2, none⟩ = some (.int .i64 (xi : Nat)) ∧ w'.cell? ⟨b, off + i * 2 + 1, none⟩ = some (.int .i64 (xj : Nat)) ∧ w'.cell? ⟨w.heap.size, 0, none⟩ = some (.int .i64 (ci : Nat)) ∧ w'.cell? ⟨w.heap.size, 1, none⟩ = some (.int .i64 (cj : Nat))) (World.drew wr) := ⟨c0, c1, d0, d1⟩
        refine takeH 0 (some 20) (v := ?_) rfl rfl (by kernel_rfl) (by kernel_rfl) (by kernel_rfl) (fun _ _ _ h => h) (Or.inl ⟨by kernel_rfl, ?_⟩) hHeld ?_
        rotate_left
        · intro w' hSw
          (try dsimp only at hSw)
          go_simp
          try with_reducible rfl
        (try simp only [Act.put, List.setIfInBounds_toArray, List.set_cons_zero, List.set_cons_succ])
        refine takeH 1 (some 21) (v := ?_) rfl rfl (by kernel_rfl) (by kernel_rfl) (by kernel_rfl) (fun _ _ _ h => h) (Or.inl ⟨by kernel_rfl, ?_⟩) hHeld ?_
        rotate_left
        · intro w' hSw
          (try dsimp only at hSw)
          go_simp
          try with_reducible rfl
        (try simp only [Act.put, List.setIfInBounds_toArray, List.set_cons_zero, List.set_cons_succ])
        refine takeH 2 (some 22) (v := ?_) rfl rfl (by kernel_rfl) (by kernel_rfl) (by kernel_rfl) (fun _ _ _ h => h) (Or.inl ⟨by kernel_rfl, ?_⟩) hHeld ?_
        rotate_left
        · intro w' hSw
          (try dsimp only at hSw)
          go_simp
          try with_reducible rfl
        (try simp only [Act.put, List.setIfInBounds_toArray, List.set_cons_zero, List.set_cons_succ])
        refine takeH 3 (some 23) (v := ?_) rfl rfl (by kernel_rfl) (by kernel_rfl) (by kernel_rfl) (fun _ _ _ h => h) (Or.inl ⟨by kernel_rfl, ?_⟩) hHeld ?_
        rotate_left
        · intro w' hSw
          (try dsimp only at hSw)
          go_simp
          try with_reducible rfl
        (try simp only [Act.put, List.setIfInBounds_toArray, List.set_cons_zero, List.set_cons_succ])
        refine takeH 4 (some 24) (v := ?_) rfl rfl (by kernel_rfl) (by kernel_rfl) (by kernel_rfl) (fun _ _ _ h => h) (Or.inl ⟨by kernel_rfl, ?_⟩) hHeld ?_
        rotate_left
        · intro w' hSw
          (try dsimp only at hSw)
          go_simp
          try with_reducible rfl
        (try simp only [Act.put, List.setIfInBounds_toArray, List.set_cons_zero, List.set_cons_succ])
        refine callH 5 (some 25) (f := 27) (args := ?_) rfl rfl (by kernel_rfl) (by kernel_rfl) ?_ ?_
        rotate_left
        · go_simp
          try with_reducible rfl
        refine (HAH.out _ (Below.refl _ _).drew).mono ?_; rintro e w5 ⟨rfl, kb, k0, k1, k2, k3⟩
        have hHeld1 := (⟨k0, k1, k2, k3⟩ : (fun w' => w'.cell? ⟨b, off + i * 2, none⟩ = some (.int .i64 (xi : Nat)) ∧ w'.cell? ⟨b, off + i * 2 + 1, none⟩ = some (.int .i64 (xj : Nat)) ∧ w'.cell? ⟨w.heap.size, 0, none⟩ = some (.int .i64 (ci : Nat)) ∧ w'.cell? ⟨w.heap.size, 1, none⟩ = some (.int .i64 (cj : Nat))) w5)
        refine ⟨_, rfl, hHeld1, ?_⟩
        (try simp only [Act.put, List.setIfInBounds_toArray, List.set_cons_zero, List.set_cons_succ])
        refine takeH 6 (some 26) (v := ?_) rfl rfl (by kernel_rfl) (by kernel_rfl) (by kernel_rfl) (fun _ _ _ h => h) (Or.inl ⟨by kernel_rfl, ?_⟩) hHeld1 ?_
        rotate_left
        · intro w' hSw
          (try dsimp only at hSw)
          go_simp
          try with_reducible rfl
        (try simp only [Act.put, List.setIfInBounds_toArray, List.set_cons_zero, List.set_cons_succ])
        refine takeH 7 (some 27) (v := undef) rfl rfl (by kernel_rfl) (by kernel_rfl) (by kernel_rfl) (fun _ _ _ h => h) (Or.inr ⟨by kernel_rfl, rfl⟩) hHeld1 ?_
        (try simp only [Act.put, List.setIfInBounds_toArray, List.set_cons_zero, List.set_cons_succ])
        refine takeH 8 (some 28) (v := undef) rfl rfl (by kernel_rfl) (by kernel_rfl) (by kernel_rfl) (fun _ _ _ h => h) (Or.inr ⟨by kernel_rfl, rfl⟩) hHeld1 ?_
        (try simp only [Act.put, List.setIfInBounds_toArray, List.set_cons_zero, List.set_cons_succ])
        refine takeH 9 (some 29) (v := undef) rfl rfl (by kernel_rfl) (by kernel_rfl) (by kernel_rfl) (fun _ _ _ h => h) (Or.inr ⟨by kernel_rfl, rfl⟩) hHeld1 ?_
        (try simp only [Act.put, List.setIfInBounds_toArray, List.set_cons_zero, List.set_cons_succ])
        refine takeH 10 (some 30) (v := undef) rfl rfl (by kernel_rfl) (by kernel_rfl) (by kernel_rfl) (fun _ _ _ h => h) (Or.inr ⟨by kernel_rfl, rfl⟩) hHeld1 ?_
        (try simp only [Act.put, List.setIfInBounds_toArray, List.set_cons_zero, List.set_cons_succ])
        refine takeH 11 (some 31) (v := undef) rfl rfl (by kernel_rfl) (by kernel_rfl) (by kernel_rfl) (fun _ _ _ h => h) (Or.inr ⟨by kernel_rfl, rfl⟩) hHeld1 ?_
        (try simp only [Act.put, List.setIfInBounds_toArray, List.set_cons_zero, List.set_cons_succ])
        refine takeH 12 (some 32) (v := undef) rfl rfl (by kernel_rfl) (by kernel_rfl) (by kernel_rfl) (fun _ _ _ h => h) (Or.inr ⟨by kernel_rfl, rfl⟩) hHeld1 ?_
        (try simp only [Act.put, List.setIfInBounds_toArray, List.set_cons_zero, List.set_cons_succ])
        refine takeH 13 (some 33) (v := undef) rfl rfl (by kernel_rfl) (by kernel_rfl) (by kernel_rfl) (fun _ _ _ h => h) (Or.inr ⟨by kernel_rfl, rfl⟩) hHeld1 ?_
        (try simp only [Act.put, List.setIfInBounds_toArray, List.set_cons_zero, List.set_cons_succ])
        refine takeH 14 (some 34) (v := ?_) rfl rfl (by kernel_rfl) (by kernel_rfl) (by kernel_rfl) (fun _ _ _ h => h) (Or.inl ⟨by kernel_rfl, ?_⟩) hHeld1 ?_
        rotate_left
        · intro w' hSw
          (try dsimp only at hSw)
          go_simp
          try with_reducible rfl
        (try simp only [Act.put, List.setIfInBounds_toArray, List.set_cons_zero, List.set_cons_succ])
        refine wpAnyH_done (by kernel_rfl) ?_ _
        go_wp2_with fail
        go_roundw
        case rel => exact ⟨i + 1, by omega, by first | rfl | go_num, by first | exact HI.out.1.trans (kb.mono HI.out.1.size) | exact (HI.out.1.trans (kb.mono HI.out.1.size)).drew | exact bdrewN (HI.out.1.trans (kb.mono HI.out.1.size)) _, HNX.out⟩
        case measure => first | (simp [intOf]; omega) | simp [intOf]
      | true =>
        cases b2 with
        | false =>
          have HNX : Hid (((P.drop (i + 1)).find? f).getD lp = res) := by
            show _ = _
            rw [← HI.out.2, HFD.out]; rfl
          go_wp2_with fail
          refine wp_region_held (S := fun w' => w'.cell? ⟨b, off + i * 2, none⟩ = some (.int .i64 (xi : Nat)) ∧ w'.cell? ⟨b, off + i * 2 + 1, none⟩ = some (.int .i64 (xj : Nat)) ∧ w'.cell? ⟨w.heap.size, 0, none⟩ = some (.int .i64 (ci : Nat)) ∧ w'.cell? ⟨w.heap.size, 1, none⟩ = some (.int .i64 (cj : Nat))) (by kernel_rfl) ?_
          change wpAnyH _ _ _ _ _ _ _ _ (World.drew _)
          have hHeld : (fun w' => w'.cell? ⟨b, off + i * 2, none⟩ = some (.int .i64 (xi : Nat)) ∧ w'.cell? ⟨b, off + i * 2 + 1, none⟩ = some (.int .i64 (xj : Nat)) ∧ w'.cell? ⟨w.heap.size, 0, none⟩ = some (.int .i64 (ci : Nat)) ∧ w'.cell? ⟨w.heap.size, 1, none⟩ = some (.int .i64 (cj : Nat))) (World.drew wr) := ⟨c0, c1, d0, d1⟩
          refine takeH 0 (some 20) (v := ?_) rfl rfl (by kernel_rfl) (by kernel_rfl) (by kernel_rfl) (fun _ _ _ h => h) (Or.inl ⟨by kernel_rfl, ?_⟩) hHeld ?_
          rotate_left
          · intro w' hSw
            (try dsimp only at hSw)
            go_simp
            try with_reducible rfl
          (try simp only [Act.put, List.setIfInBounds_toArray, List.set_cons_zero, List.set_cons_succ])
          refine takeH 1 (some 21) (v := ?_) rfl rfl (by kernel_rfl) (by kernel_rfl) (by kernel_rfl) (fun _ _ _ h => h) (Or.inl ⟨by kernel_rfl, ?_⟩) hHeld ?_
          rotate_left
          · intro w' hSw
            (try dsimp only at hSw)
            go_simp
            try with_reducible rfl
          (try simp only [Act.put, List.setIfInBounds_toArray, List.set_cons_zero, List.set_cons_succ])
          refine takeH 2 (some 22) (v := ?_) rfl rfl (by kernel_rfl) (by kernel_rfl) (by kernel_rfl) (fun _ _ _ h => h) (Or.inl ⟨by kernel_rfl, ?_⟩) hHeld ?_
          rotate_left
          · intro w' hSw
            (try dsimp only at hSw)
            go_simp
            try with_reducible rfl
          (try simp only [Act.put, List.setIfInBounds_toArray, List.set_cons_zero, List.set_cons_succ])
          refine takeH 3 (some 23) (v := ?_) rfl rfl (by kernel_rfl) (by kernel_rfl) (by kernel_rfl) (fun _ _ _ h => h) (Or.inl ⟨by kernel_rfl, ?_⟩) hHeld ?_
          rotate_left
          · intro w' hSw
            (try dsimp only at hSw)
            go_simp
            try with_reducible rfl
          (try simp only [Act.put, List.setIfInBounds_toArray, List.set_cons_zero, List.set_cons_succ])
          refine takeH 4 (some 24) (v := ?_) rfl rfl (by kernel_rfl) (by kernel_rfl) (by kernel_rfl) (fun _ _ _ h => h) (Or.inl ⟨by kernel_rfl, ?_⟩) hHeld ?_
          rotate_left
          · intro w' hSw
            (try dsimp only at hSw)
            go_simp
            try with_reducible rfl
          (try simp only [Act.put, List.setIfInBounds_toArray, List.set_cons_zero, List.set_cons_succ])
          refine callH 5 (some 25) (f := 27) (args := ?_) rfl rfl (by kernel_rfl) (by kernel_rfl) ?_ ?_
          rotate_left
          · go_simp
            try with_reducible rfl
          refine (HAH.out _ (Below.refl _ _).drew).mono ?_; rintro e w5 ⟨rfl, kb, k0, k1, k2, k3⟩
          have hHeld1 := (⟨k0, k1, k2, k3⟩ : (fun w' => w'.cell? ⟨b, off + i * 2, none⟩ = some (.int .i64 (xi : Nat)) ∧ w'.cell? ⟨b, off + i * 2 + 1, none⟩ = some (.int .i64 (xj : Nat)) ∧ w'.cell? ⟨w.heap.size, 0, none⟩ = some (.int .i64 (ci : Nat)) ∧ w'.cell? ⟨w.heap.size, 1, none⟩ = some (.int .i64 (cj : Nat))) w5)
          refine ⟨_, rfl, hHeld1, ?_⟩
          (try simp only [Act.put, List.setIfInBounds_toArray, List.set_cons_zero, List.set_cons_succ])
          refine takeH 6 (some 26) (v := ?_) rfl rfl (by kernel_rfl) (by kernel_rfl) (by kernel_rfl) (fun _ _ _ h => h) (Or.inl ⟨by kernel_rfl, ?_⟩) hHeld1 ?_
          rotate_left
          · intro w' hSw
            (try dsimp only at hSw)
            go_simp
            try with_reducible rfl
          (try simp only [Act.put, List.setIfInBounds_toArray, List.set_cons_zero, List.set_cons_succ])
          refine takeH 7 (some 27) (v := ?_) rfl rfl (by kernel_rfl) (by kernel_rfl) (by kernel_rfl) (fun _ _ _ h => h) (Or.inl ⟨by kernel_rfl, ?_⟩) hHeld1 ?_
          rotate_left
          · intro w' hSw
            (try dsimp only at hSw)
            go_simp
            try with_reducible rfl
          (try simp only [Act.put, List.setIfInBounds_toArray, List.set_cons_zero, List.set_cons_succ])
          refine takeH 8 (some 28) (v := ?_) rfl rfl (by kernel_rfl) (by kernel_rfl) (by kernel_rfl) (fun _ _ _ h => h) (Or.inl ⟨by kernel_rfl, ?_⟩) hHeld1 ?_
          rotate_left
          · intro w' hSw
            (try dsimp only at hSw)
            go_simp
            try with_reducible rfl
          (try simp only [Act.put, List.setIfInBounds_toArray, List.set_cons_zero, List.set_cons_succ])
          refine takeH 9 (some 29) (v := ?_) rfl rfl (by kernel_rfl) (by kernel_rfl) (by kernel_rfl) (fun _ _ _ h => h) (Or.inl ⟨by kernel_rfl, ?_⟩) hHeld1 ?_
          rotate_left
          · intro w' hSw
            (try dsimp only at hSw)
            go_simp
            try with_reducible rfl
          (try simp only [Act.put, List.setIfInBounds_toArray, List.set_cons_zero, List.set_cons_succ])
          refine takeH 10 (some 30) (v := ?_) rfl rfl (by kernel_rfl) (by kernel_rfl) (by kernel_rfl) (fun _ _ _ h => h) (Or.inl ⟨by kernel_rfl, ?_⟩) hHeld1 ?_
          rotate_left
          · intro w' hSw
            (try dsimp only at hSw)
            go_simp
            try with_reducible rfl
          (try simp only [Act.put, List.setIfInBounds_toArray, List.set_cons_zero, List.set_cons_succ])
          refine takeH 11 (some 31) (v := ?_) rfl rfl (by kernel_rfl) (by kernel_rfl) (by kernel_rfl) (fun _ _ _ h => h) (Or.inl ⟨by kernel_rfl, ?_⟩) hHeld1 ?_
          rotate_left
          · intro w' hSw
            (try dsimp only at hSw)
            go_simp
            try with_reducible rfl
          (try simp only [Act.put, List.setIfInBounds_toArray, List.set_cons_zero, List.set_cons_succ])
          refine takeH 12 (some 32) (v := ?_) rfl rfl (by kernel_rfl) (by kernel_rfl) (by kernel_rfl) (fun _ _ _ h => h) (Or.inl ⟨by kernel_rfl, ?_⟩) hHeld1 ?_
          rotate_left
          · intro w' hSw
            (try dsimp only at hSw)
            go_simp
            try with_reducible rfl
          (try simp only [Act.put, List.setIfInBounds_toArray, List.set_cons_zero, List.set_cons_succ])
          refine callH 13 (some 33) (f := 36) (args := ?_) rfl rfl (by kernel_rfl) (by kernel_rfl) ?_ ?_
          rotate_left
          · go_simp
            try with_reducible rfl
          refine (HIS.out _ kb).mono ?_; rintro e w6 ⟨rfl, mb, m0, m1, m2, m3, HM⟩
          have hHeld12 := (⟨m0, m1, m2, m3⟩ : (fun w' => w'.cell? ⟨b, off + i * 2, none⟩ = some (.int .i64 (xi : Nat)) ∧ w'.cell? ⟨b, off + i * 2 + 1, none⟩ = some (.int .i64 (xj : Nat)) ∧ w'.cell? ⟨w.heap.size, 0, none⟩ = some (.int .i64 (ci : Nat)) ∧ w'.cell? ⟨w.heap.size, 1, none⟩ = some (.int .i64 (cj : Nat))) w6)
          refine ⟨_, rfl, hHeld12, ?_⟩
          (try simp only [Act.put, List.setIfInBounds_toArray, List.set_cons_zero, List.set_cons_succ])
          refine takeH 14 (some 34) (v := ?_) rfl rfl (by kernel_rfl) (by kernel_rfl) (by kernel_rfl) (fun _ _ _ h => h) (Or.inl ⟨by kernel_rfl, ?_⟩) hHeld12 ?_
          rotate_left
          · intro w' hSw
            (try dsimp only at hSw)
            go_simp
            try with_reducible rfl
          (try simp only [Act.put, List.setIfInBounds_toArray, List.set_cons_zero, List.set_cons_succ])
          refine wpAnyH_done (by kernel_rfl) ?_ _
          go_wp2_with fail
          go_roundw
          case rel => exact ⟨i + 1, by omega, by first | rfl | go_num, by first | exact HI.out.1.trans (mb.mono HI.out.1.size) | exact (HI.out.1.trans (mb.mono HI.out.1.size)).drew | exact bdrewN (HI.out.1.trans (mb.mono HI.out.1.size)) _, HNX.out⟩
          case measure => first | (simp [intOf]; omega) | simp [intOf]
        | true =>
          have hrx : (xi, xj) = res := by
            rw [← HI.out.2, HFD.out]; rfl
          have HRX := Lib.hid hrx
          clear hrx
          go_wp2_with fail
          refine wp_region_held (S := fun w' => w'.cell? ⟨b, off + i * 2, none⟩ = some (.int .i64 (xi : Nat)) ∧ w'.cell? ⟨b, off + i * 2 + 1, none⟩ = some (.int .i64 (xj : Nat)) ∧ w'.cell? ⟨w.heap.size, 0, none⟩ = some (.int .i64 (ci : Nat)) ∧ w'.cell? ⟨w.heap.size, 1, none⟩ = some (.int .i64 (cj : Nat))) (by kernel_rfl) ?_
          change wpAnyH _ _ _ _ _ _ _ _ (World.drew _)
          have hHeld : (fun w' => w'.cell? ⟨b, off + i * 2, none⟩ = some (.int .i64 (xi : Nat)) ∧ w'.cell? ⟨b, off + i * 2 + 1, none⟩ = some (.int .i64 (xj : Nat)) ∧ w'.cell? ⟨w.heap.size, 0, none⟩ = some (.int .i64 (ci : Nat)) ∧ w'.cell? ⟨w.heap.size, 1, none⟩ = some (.int .i64 (cj : Nat))) (World.drew wr) := ⟨c0, c1, d0, d1⟩
          refine takeH 0 (some 20) (v := ?_) rfl rfl (by kernel_rfl) (by kernel_rfl) (by kernel_rfl) (fun _ _ _ h => h) (Or.inl ⟨by kernel_rfl, ?_⟩) hHeld ?_
          rotate_left
          · intro w' hSw
            (try dsimp only at hSw)
            go_simp
            try with_reducible rfl
          (try simp only [Act.put, List.setIfInBounds_toArray, List.set_cons_zero, List.set_cons_succ])
          refine takeH 1 (some 21) (v := ?_) rfl rfl (by kernel_rfl) (by kernel_rfl) (by kernel_rfl) (fun _ _ _ h => h) (Or.inl ⟨by kernel_rfl, ?_⟩) hHeld ?_
          rotate_left
          · intro w' hSw
            (try dsimp only at hSw)
            go_simp
            try with_reducible rfl
          (try simp only [Act.put, List.setIfInBounds_toArray, List.set_cons_zero, List.set_cons_succ])
          refine takeH 2 (some 22) (v := ?_) rfl rfl (by kernel_rfl) (by kernel_rfl) (by kernel_rfl) (fun _ _ _ h => h) (Or.inl ⟨by kernel_rfl, ?_⟩) hHeld ?_
          rotate_left
          · intro w' hSw
            (try dsimp only at hSw)
            go_simp
            try with_reducible rfl
          (try simp only [Act.put, List.setIfInBounds_toArray, List.set_cons_zero, List.set_cons_succ])
          refine takeH 3 (some 23) (v := ?_) rfl rfl (by kernel_rfl) (by kernel_rfl) (by kernel_rfl) (fun _ _ _ h => h) (Or.inl ⟨by kernel_rfl, ?_⟩) hHeld ?_
          rotate_left
          · intro w' hSw
            (try dsimp only at hSw)
            go_simp
            try with_reducible rfl
          (try simp only [Act.put, List.setIfInBounds_toArray, List.set_cons_zero, List.set_cons_succ])
          refine takeH 4 (some 24) (v := ?_) rfl rfl (by kernel_rfl) (by kernel_rfl) (by kernel_rfl) (fun _ _ _ h => h) (Or.inl ⟨by kernel_rfl, ?_⟩) hHeld ?_
          rotate_left
          · intro w' hSw
            (try dsimp only at hSw)
            go_simp
            try with_reducible rfl
          (try simp only [Act.put, List.setIfInBounds_toArray, List.set_cons_zero, List.set_cons_succ])
          refine callH 5 (some 25) (f := 27) (args := ?_) rfl rfl (by kernel_rfl) (by kernel_rfl) ?_ ?_
          rotate_left
          · go_simp
            try with_reducible rfl
          refine (HAH.out _ (Below.refl _ _).drew).mono ?_; rintro e w5 ⟨rfl, kb, k0, k1, k2, k3⟩
          have hHeld1 := (⟨k0, k1, k2, k3⟩ : (fun w' => w'.cell? ⟨b, off + i * 2, none⟩ = some (.int .i64 (xi : Nat)) ∧ w'.cell? ⟨b, off + i * 2 + 1, none⟩ = some (.int .i64 (xj : Nat)) ∧ w'.cell? ⟨w.heap.size, 0, none⟩ = some (.int .i64 (ci : Nat)) ∧ w'.cell? ⟨w.heap.size, 1, none⟩ = some (.int .i64 (cj : Nat))) w5)
          refine ⟨_, rfl, hHeld1, ?_⟩
          (try simp only [Act.put, List.setIfInBounds_toArray, List.set_cons_zero, List.set_cons_succ])
          refine takeH 6 (some 26) (v := ?_) rfl rfl (by kernel_rfl) (by kernel_rfl) (by kernel_rfl) (fun _ _ _ h => h) (Or.inl ⟨by kernel_rfl, ?_⟩) hHeld1 ?_
          rotate_left
          · intro w' hSw
            (try dsimp only at hSw)
            go_simp
            try with_reducible rfl
          (try simp only [Act.put, List.setIfInBounds_toArray, List.set_cons_zero, List.set_cons_succ])
          refine takeH 7 (some 27) (v := ?_) rfl rfl (by kernel_rfl) (by kernel_rfl) (by kernel_rfl) (fun _ _ _ h => h) (Or.inl ⟨by kernel_rfl, ?_⟩) hHeld1 ?_
          rotate_left
          · intro w' hSw
            (try dsimp only at hSw)
            go_simp
            try with_reducible rfl
          (try simp only [Act.put, List.setIfInBounds_toArray, List.set_cons_zero, List.set_cons_succ])
          refine takeH 8 (some 28) (v := ?_) rfl rfl (by kernel_rfl) (by kernel_rfl) (by kernel_rfl) (fun _ _ _ h => h) (Or.inl ⟨by kernel_rfl, ?_⟩) hHeld1 ?_
          rotate_left
          · intro w' hSw
            (try dsimp only at hSw)
            go_simp
            try with_reducible rfl
          (try simp only [Act.put, List.setIfInBounds_toArray, List.set_cons_zero, List.set_cons_succ])
          refine takeH 9 (some 29) (v := ?_) rfl rfl (by kernel_rfl) (by kernel_rfl) (by kernel_rfl) (fun _ _ _ h => h) (Or.inl ⟨by kernel_rfl, ?_⟩) hHeld1 ?_
          rotate_left
          · intro w' hSw
            (try dsimp only at hSw)
            go_simp
            try with_reducible rfl
          (try simp only [Act.put, List.setIfInBounds_toArray, List.set_cons_zero, List.set_cons_succ])
          refine takeH 10 (some 30) (v := ?_) rfl rfl (by kernel_rfl) (by kernel_rfl) (by kernel_rfl) (fun _ _ _ h => h) (Or.inl ⟨by kernel_rfl, ?_⟩) hHeld1 ?_
          rotate_left
          · intro w' hSw
            (try dsimp only at hSw)
            go_simp
            try with_reducible rfl
          (try simp only [Act.put, List.setIfInBounds_toArray, List.set_cons_zero, List.set_cons_succ])
          refine takeH 11 (some 31) (v := ?_) rfl rfl (by kernel_rfl) (by kernel_rfl) (by kernel_rfl) (fun _ _ _ h => h) (Or.inl ⟨by kernel_rfl, ?_⟩) hHeld1 ?_
          rotate_left
          · intro w' hSw
            (try dsimp only at hSw)
            go_simp
            try with_reducible rfl
          (try simp only [Act.put, List.setIfInBounds_toArray, List.set_cons_zero, List.set_cons_succ])
          refine takeH 12 (some 32) (v := ?_) rfl rfl (by kernel_rfl) (by kernel_rfl) (by kernel_rfl) (fun _ _ _ h => h) (Or.inl ⟨by kernel_rfl, ?_⟩) hHeld1 ?_
          rotate_left
          · intro w' hSw
            (try dsimp only at hSw)
            go_simp
            try with_reducible rfl
          (try simp only [Act.put, List.setIfInBounds_toArray, List.set_cons_zero, List.set_cons_succ])
          refine callH 13 (some 33) (f := 36) (args := ?_) rfl rfl (by kernel_rfl) (by kernel_rfl) ?_ ?_
          rotate_left
          · go_simp
            try with_reducible rfl
          refine (HIS.out _ kb).mono ?_; rintro e w6 ⟨rfl, mb, m0, m1, m2, m3, HM⟩
          have hHeld12 := (⟨m0, m1, m2, m3⟩ : (fun w' => w'.cell? ⟨b, off + i * 2, none⟩ = some (.int .i64 (xi : Nat)) ∧ w'.cell? ⟨b, off + i * 2 + 1, none⟩ = some (.int .i64 (xj : Nat)) ∧ w'.cell? ⟨w.heap.size, 0, none⟩ = some (.int .i64 (ci : Nat)) ∧ w'.cell? ⟨w.heap.size, 1, none⟩ = some (.int .i64 (cj : Nat))) w6)
          refine ⟨_, rfl, hHeld12, ?_⟩
          (try simp only [Act.put, List.setIfInBounds_toArray, List.set_cons_zero, List.set_cons_succ])
          refine takeH 14 (some 34) (v := ?_) rfl rfl (by kernel_rfl) (by kernel_rfl) (by kernel_rfl) (fun _ _ _ h => h) (Or.inl ⟨by kernel_rfl, ?_⟩) hHeld12 ?_
          rotate_left
          · intro w' hSw
            (try dsimp only at hSw)
            go_simp
            try with_reducible rfl
          (try simp only [Act.put, List.setIfInBounds_toArray, List.set_cons_zero, List.set_cons_succ])
          refine wpAnyH_done (by kernel_rfl) ?_ _
          obtain ⟨f0, f1, f2, f3⟩ := row2 HM.out
          go_wp2_with fail
          refine bodyPost_ret (v := .agg #[.int .i64 (xi : Nat), .int .i64 (xj : Nat)]) ?_ rfl ⟨?_, ?_⟩
          · rw [results_cell1 rfl]
            go_simp
          · rw [← HRX.out]; rfl
          · have h2 := HBW.out.trans (mb.mono HBW.out.size)
            (repeat' (first | exact h2 | omega | refine setCell_below ?_ _ _ _ ?_ | refine Below.drew ?_ | refine bdrewN ?_ _))
    · obtain rfl : i = N := by omega
      have hrx : lp = res := by
        have := HI.out.2
        rw [List.drop_eq_nil_of_le (by rw [HN.out]; omega)] at this
        exact this
      have HRX := Lib.hid hrx
      have hbw : Below w.heap.size w wr := (H4B.out.1.trans (HI.out.1.mono H4B.out.1.size))
      have HBW := Lib.hid hbw
      have g2 := (HI.out.1.block _ (heap_lt H4B.out.2.2)).trans H4B.out.2.2
      have HG2 := Lib.hid g2
      obtain ⟨li, lj⟩ := lp
      clear hrx hbw g2
      go_wp2_with (go_at_call 12; refine (HLC.out _ HBW.out).mono ?_; rintro e w5 ⟨he, hb5⟩; rw [show plV (li, lj) = .agg #[.int .i64 (li : Nat), .int .i64 (lj : Nat)] from rfl] at he; subst he; have HB5 := Lib.hid hb5; obtain ⟨f0, f1, f2, f3⟩ := row2 ((hb5.block _ (heap_lt HG2.out)).trans HG2.out); clear hb5)
      refine bodyPost_ret (v := .agg #[.int .i64 (li : Nat), .int .i64 (lj : Nat)]) ?_ rfl ⟨?_, ?_⟩
      · rw [results_cell1 rfl]
        go_simp
      · rw [← HRX.out]; rfl
      · have h2 := HBW.out.trans (HB5.out.mono HBW.out.size)
        (repeat' (first | exact h2 | omega | refine setCell_below ?_ _ _ _ ?_ | refine Below.drew ?_ | refine bdrewN ?_ _))
set_option maxHeartbeats 1000000 in
theorem rbefore_any (F : Nat → Prop) (a : Option Addr) (n c : Nat) (L : List (List Int)) (q : Po) (kd : Int) (w : World) (h : RdL F w a n c L) (hq : i64p q) (hs : sizeN (lens L) ≤ 262144) (hk0 : 0 ≤ kd) (hk6 : kd ≤ 6) :
    Calls Try.prog 19 #[.slice a n c, q.v, .int .i64 kd] w fun e w' => e = .returned (plV (beforeP L kd (clipP L q.l q.c))) ∧ Below w.heap.size w w' := by
  have hsm := h.small
  have hl := h.len
  have hplen := places_len L
  have hokm : ∀ x ∈ places L, okP L x := fun x hx => places_mem.1 hx
  have HCL : Hid (∀ W : World, Below w.heap.size w W → Calls Try.prog 9 #[.slice a n c, q.v] W fun e w' => e = .returned (plV (clipP L q.l q.c)) ∧ Below W.heap.size W w') := fun W hW => rclip_any F a n c L q W (h.below hW) hq
  have HPC : Hid (∀ W : World, Below w.heap.size w W → Calls Try.prog 25 #[.slice a n c] W fun e w' => ∃ a' n' c', e = .returned (.slice a' n' c') ∧ Hid (RdP w' a' n' c' (places L) ∧ Below W.heap.size W w')) := fun W hW => rplaces_any F a n c L W (h.below hW) hs
  have HLC : Hid (∀ W : World, Below w.heap.size w W → Calls Try.prog 12 #[.slice a n c] W fun e w' => e = .returned (plV (lastP L)) ∧ Below W.heap.size W w') := fun W hW => rlast_any F a n c L W (h.below hW) hs
  have HAC : Hid (∀ (p x : Pl) (W : World), Calls Try.prog 27 #[plV p, plV x] W fun e w' => e = .returned (.bool (aheadP p x)) ∧ Below W.heap.size W w') := fun p x W => rahead_any p x W
  have HIC : Hid (∀ (x : Pl) (W : World), x ∈ places L → Below w.heap.size w W → Calls Try.prog 36 #[.slice a n c, plV x, .int .i64 kd] W fun e w' => e = .returned (.bool (isK L kd x)) ∧ Below W.heap.size W w') := fun x W hx hW => ris_any F a n c L x kd W (h.below hW) (hokm x hx) hk0 hk6
  unfold beforeP
  obtain ⟨cp, hcp⟩ : ∃ cp, clipP L q.l q.c = cp := ⟨_, rfl⟩
  obtain ⟨P, hP⟩ : ∃ P, places L = P := ⟨_, rfl⟩
  obtain ⟨lp, hlp⟩ : ∃ lp, lastP L = lp := ⟨_, rfl⟩
  rw [hcp, hP]
  rw [hcp] at HCL
  rw [hP] at HPC HIC hplen
  rw [hlp] at HLC
  obtain ⟨f, hf⟩ : ∃ f : Pl → Bool, (fun x => aheadP x cp && isK L kd x) = f := ⟨_, rfl⟩
  rw [hf]
  obtain ⟨res, hres⟩ : ∃ res, (P.reverse.find? f).getD (0, 0) = res := ⟨_, rfl⟩
  rw [hres]
  have HF : Hid (∀ x, f x = (aheadP x cp && isK L kd x)) := fun x => by rw [← hf]
  have HRES := Lib.hid hres
  obtain ⟨u, v⟩ := q
  obtain ⟨ci, cj⟩ := cp
  obtain ⟨w1, hw1⟩ : ∃ w1, (w.alloc (.cells #[.int .i64 u, .int .i64 v] 24)).alloc (.cells #[.int .i64 0, .int .i64 0] 24) = w1 := ⟨_, rfl⟩
  have hb1 : Below w.heap.size w w1 := by rw [← hw1]; exact ((Below.refl _ w).alloc (Nat.le_refl _) _).alloc (by simp) _
  have g1 : w1.heap[w.heap.size]? = some (.cells #[.int .i64 u, .int .i64 v] 24 (0, 0)) := by
    rw [← hw1, ((Below.refl _ (w.alloc _)).alloc (Nat.le_refl _) _).block _ (by simp)]
    exact heap_alloc_new w _
  have g2 : w1.heap[w.heap.size + 1]? = some (.cells #[.int .i64 0, .int .i64 0] 24 (0, 0)) := by
    rw [← hw1]
    have := heap_alloc_new (w.alloc (.cells #[.int .i64 u, .int .i64 v] 24)) (.cells #[.int .i64 0, .int .i64 0] 24)
    simpa using this
  have HOPC : Hid (∀ (e : Ending) (w2 : World), (e = .returned (plV (ci, cj)) ∧ Below w1.heap.size w1 w2) → ∃ w3, e = .returned (.agg #[.int .i64 (ci : Nat), .int .i64 (cj : Nat)]) ∧ (w2.setCell ⟨w.heap.size, 0, none⟩ (.int .i64 (ci : Nat))).setCell ⟨w.heap.size, 1, none⟩ (.int .i64 (cj : Nat)) = w3 ∧ (w2.frozen? ⟨w.heap.size, 0, none⟩ = false ∧ w2.frozen? ⟨w.heap.size, 1, none⟩ = false ∧ w2.cell? ⟨w.heap.size, 0, none⟩ = some (.int .i64 u) ∧ w2.cell? ⟨w.heap.size, 1, none⟩ = some (.int .i64 v)) ∧
      Hid (Below w.heap.size w w3 ∧ w3.heap[w.heap.size]? = some (.cells #[.int .i64 (ci : Nat), .int .i64 (cj : Nat)] 24 (0, 0)) ∧ w3.heap[w.heap.size + 1]? = some (.cells #[.int .i64 0, .int .i64 0] 24 (0, 0)))) := by
    rintro e w2 ⟨rfl, hb2⟩
    have k1 := (hb2.block _ (heap_lt g1)).trans g1
    have k2 := (hb2.block _ (heap_lt g2)).trans g2
    obtain ⟨x0, x1, x2, x3⟩ := row2 k1
    refine ⟨_, rfl, rfl, ⟨x2, x3, x0, x1⟩, ?_, ?_, ?_⟩
    · exact setCell_below (setCell_below (hb1.trans (hb2.mono hb1.size)) _ _ _ (Nat.le_refl _)) _ _ _ (Nat.le_refl _)
    · have k3 := heap_set k1 0 (.int .i64 (ci : Nat))
      exact heap_set k3 1 (.int .i64 (cj : Nat))
    · rw [Below.heap_setCell _ _ _ _ (by show ¬ _ = _; simp), Below.heap_setCell _ _ _ _ (by show ¬ _ = _; simp)]
      exact k2
  obtain ⟨a0, a1, z0, z1⟩ := row2 g1
  have HW1 := Lib.hid hw1
  have HB1 := Lib.hid hb1
  have HPL := Lib.hid hP
  have hPs : P.length ≤ 262144 := by omega
  have HPS := Lib.hid hPs
  clear h hq hs hl hplen hokm hcp hP hlp hf hres hw1 hb1 g1 g2 hPs
  show Calls Try.prog 19 #[.slice a n c, .agg #[.int .i64 u, .int .i64 v], .int .i64 kd] w _
  go_enter Try.func19, Try.ntmps19
  go_upto_region 1 with fail
  rw [HW1.out]
  go_wp2_with (first
    | (go_at_call 9; refine (HCL.out _ HB1.out).mono ?_; intro e w2 hh; obtain ⟨w3, he, hw3, ⟨y0, y1, y2, y3⟩, H3⟩ := HOPC.out e w2 hh; subst he; clear hh)
    | (go_at_call 25; refine (HPC.out w3 H3.out.1).mono ?_; rintro e w4 ⟨a4, N, c4, rfl, H4⟩; have hN := H4.out.1.len; have HN := Lib.hid hN; have hNs : N ≤ 262144 := (hN ▸ HPS.out); clear hN))
  clear y0 y1 y2 y3 a0 a1 z0 z1
  have H4B : Hid (Below w.heap.size w w4 ∧ w4.heap[w.heap.size]? = some (.cells #[.int .i64 (ci : Nat), .int .i64 (cj : Nat)] 24 (0, 0)) ∧ w4.heap[w.heap.size + 1]? = some (.cells #[.int .i64 0, .int .i64 0] 24 (0, 0))) :=
    ⟨H3.out.1.trans (H4.out.2.mono H3.out.1.size), (H4.out.2.block _ (heap_lt H3.out.2.1)).trans H3.out.2.1, (H4.out.2.block _ (heap_lt H3.out.2.2)).trans H3.out.2.2⟩
  go_loopw [8] (fun iv wr => ∃ t : Int, iv = .int .i64 t ∧ Hid (Below w4.heap.size w4 wr ∧ ((t = -1 ∧ (0, 0) = res) ∨ ∃ k : Nat, k < N ∧ t = (k : Nat) ∧ ((P.take (k + 1)).reverse.find? f).getD (0, 0) = res))) (fun iv _ => (intOf iv + 1).toNat)
  case atStart => 
    refine ⟨_, rfl, Below.refl _ _, ?_⟩
    have hr := HRES.out
    by_cases h0 : N = 0
    · left
      refine ⟨by omega, ?_⟩
      rw [List.eq_nil_of_length_eq_zero (HN.out.trans h0)] at hr
      exact hr
    · right
      refine ⟨N - 1, by omega, by omega, ?_⟩
      rw [show N - 1 + 1 = N by omega, List.take_of_length_le (by rw [HN.out]; omega)]
      exact hr
  case round =>
    obtain ⟨t, rfl, HI0⟩ := hrel
    rcases HI0.out.2 with ⟨rfl, hi⟩ | ⟨i, hlt, rfl, hi⟩
    rotate_left
    · have HI : Hid (Below w4.heap.size w4 wr ∧ ((P.take (i + 1)).reverse.find? f).getD (0, 0) = res) := ⟨HI0.out.1, hi⟩
      clear hi HI0
      obtain ⟨x, hx⟩ : ∃ x, P[i]? = some x := ⟨P[i]'(by have := HN.out; omega), List.getElem?_eq_getElem _⟩
      have hxm : x ∈ P := List.mem_of_getElem? hx
      have hfd := find_take hx f
      rw [HF.out x] at hfd
      obtain ⟨b, off, rfl, hbl, c0, c1⟩ := H4.out.1.get HI.out.1 hx
      have hbw : Below w.heap.size w wr := (H4B.out.1.trans (HI.out.1.mono H4B.out.1.size))
      have g1 := (HI.out.1.block _ (heap_lt H4B.out.2.1)).trans H4B.out.2.1
      have g2 := (HI.out.1.block _ (heap_lt H4B.out.2.2)).trans H4B.out.2.2
      obtain ⟨d0, d1, -, -⟩ := row2 g1
      obtain ⟨b1, hb1⟩ : ∃ b1, aheadP x (ci, cj) = b1 := ⟨_, rfl⟩
      obtain ⟨b2, hb2⟩ : ∃ b2, isK L kd x = b2 := ⟨_, rfl⟩
      rw [hb1, hb2] at hfd
      have hblr : b < wr.heap.size := block_lt_of_cell c0
      obtain ⟨xi, xj⟩ := x
      simp only at c0 c1
      have HAH : Hid (∀ W : World, Below wr.heap.size wr W → Calls Try.prog 27 #[.agg #[.int .i64 (xi : Nat), .int .i64 (xj : Nat)], .agg #[.int .i64 (ci : Nat), .int .i64 (cj : Nat)]] W fun e w' => e = .returned (.bool b1) ∧ Below wr.heap.size wr w' ∧ w'.cell? ⟨b, off + i * 2, none⟩ = some (.int .i64 (xi : Nat)) ∧ w'.cell? ⟨b, off + i * 2 + 1, none⟩ = some (.int .i64 (xj : Nat)) ∧ w'.cell? ⟨w.heap.size, 0, none⟩ = some (.int .i64 (ci : Nat)) ∧ w'.cell? ⟨w.heap.size, 1, none⟩ = some (.int .i64 (cj : Nat))) := by
        intro W hW
        have := HAC.out (xi, xj) (ci, cj) W
        rw [hb1] at this
        refine this.mono ?_
        rintro e w' ⟨rfl, hb⟩
        have h2 := hW.trans (hb.mono hW.size)
        exact ⟨rfl, h2, (h2.cell (p := ⟨b, off + i * 2, none⟩) hblr).trans c0, (h2.cell (p := ⟨b, off + i * 2 + 1, none⟩) hblr).trans c1, (h2.cell (p := ⟨w.heap.size, 0, none⟩) (heap_lt g1)).trans d0, (h2.cell (p := ⟨w.heap.size, 1, none⟩) (heap_lt g1)).trans d1⟩
      have HIS : Hid (∀ W : World, Below wr.heap.size wr W → Calls Try.prog 36 #[.slice a n c, .agg #[.int .i64 (xi : Nat), .int .i64 (xj : Nat)], .int .i64 kd] W fun e w' => e = .returned (.bool b2) ∧ Below wr.heap.size wr w' ∧ w'.cell? ⟨b, off + i * 2, none⟩ = some (.int .i64 (xi : Nat)) ∧ w'.cell? ⟨b, off + i * 2 + 1, none⟩ = some (.int .i64 (xj : Nat)) ∧ w'.cell? ⟨w.heap.size, 0, none⟩ = some (.int .i64 (ci : Nat)) ∧ w'.cell? ⟨w.heap.size, 1, none⟩ = some (.int .i64 (cj : Nat)) ∧ Hid (w'.heap[w.heap.size + 1]? = some (.cells #[.int .i64 0, .int .i64 0] 24 (0, 0)))) := by
        intro W hW
        have := HIC.out (xi, xj) W hxm (hbw.trans (hW.mono hbw.size))
        rw [hb2] at this
        refine this.mono ?_
        rintro e w' ⟨rfl, hb⟩
        have h2 := hW.trans (hb.mono hW.size)
        exact ⟨rfl, h2, (h2.cell (p := ⟨b, off + i * 2, none⟩) hblr).trans c0, (h2.cell (p := ⟨b, off + i * 2 + 1, none⟩) hblr).trans c1, (h2.cell (p := ⟨w.heap.size, 0, none⟩) (heap_lt g1)).trans d0, (h2.cell (p := ⟨w.heap.size, 1, none⟩) (heap_lt g1)).trans d1, (h2.block _ (heap_lt g2)).trans g2⟩
      have HFD := Lib.hid hfd
      have HBW := Lib.hid hbw
      have hin : i < N := hlt
      clear hfd hxm hx g1 g2 hbl hblr hbw hb1 hb2
      cases b1 with
      | false =>
        have HNX : Hid (((P.take i).reverse.find? f).getD (0, 0) = res) := by
          show _ = _
          rw [← HI.out.2, HFD.out]; rfl
        have HDN : Hid (((i : Int) - 1 = -1 ∧ (0, 0) = res) ∨ ∃ k : Nat, k < N ∧ (i : Int) - 1 = (k : Nat) ∧ ((P.take (k + 1)).reverse.find? f).getD (0, 0) = res) := by
          by_cases h0 : i = 0
          · left; refine ⟨by omega, ?_⟩; have := HNX.out; rw [h0] at this; exact this
          · right; refine ⟨i - 1, by omega, by omega, ?_⟩; rw [show i - 1 + 1 = i by omega]; exact HNX.out
        go_wp2_with fail
        refine wp_region_held (S := fun w' => w'.cell? ⟨b, off + i * 2, none⟩ = some (.int .i64 (xi : Nat)) ∧ w'.cell? ⟨b, off + i * 2 + 1, none⟩ = some (.int .i64 (xj : Nat)) ∧ w'.cell? ⟨w.heap.size, 0, none⟩ = some (.int .i64 (ci : Nat)) ∧ w'.cell? ⟨w.heap.size, 1, none⟩ = some (.int .i64 (cj : Nat))) (by kernel_rfl) ?_
        change wpAnyH _ _ _ _ _ _ _ _ (World.drew _)
        have hHeld : (fun w' => w'.cell? ⟨b, off + i * 2, none⟩ = some (.int .i64 (xi : Nat)) ∧ w'.cell? ⟨b, off + i * 2 + 1, none⟩ = some (.int .i64 (xj : Nat)) ∧ w'.cell? ⟨w.heap.size, 0, none⟩ = some (.int .i64 (ci : Nat)) ∧ w'.cell? ⟨w.heap.size, 1, none⟩ = some (.int .i64 (cj : Nat))) (World.drew wr) := ⟨c0, c1, d0, d1⟩
        refine takeH 0 (some 21) (v := ?_) rfl rfl (by kernel_rfl) (by kernel_rfl) (by kernel_rfl) (fun _ _ _ h => h) (Or.inl ⟨by kernel_rfl, ?_⟩) hHeld ?_
        rotate_left
        · intro w' hSw
          (try dsimp only at hSw)
          go_simp
          try with_reducible rfl
        (try simp only [Act.put, List.setIfInBounds_toArray, List.set_cons_zero, List.set_cons_succ])
        refine takeH 1 (some 22) (v := ?_) rfl rfl (by kernel_rfl) (by kernel_rfl) (by kernel_rfl) (fun _ _ _ h => h) (Or.inl ⟨by kernel_rfl, ?_⟩) hHeld ?_
        rotate_left
        · intro w' hSw
          (try dsimp only at hSw)
          go_simp
          try with_reducible rfl
        (try simp only [Act.put, List.setIfInBounds_toArray, List.set_cons_zero, List.set_cons_succ])
        refine takeH 2 (some 23) (v := ?_) rfl rfl (by kernel_rfl) (by kernel_rfl) (by kernel_rfl) (fun _ _ _ h => h) (Or.inl ⟨by kernel_rfl, ?_⟩) hHeld ?_
        rotate_left
        · intro w' hSw
          (try dsimp only at hSw)
          go_simp
          try with_reducible rfl
        (try simp only [Act.put, List.setIfInBounds_toArray, List.set_cons_zero, List.set_cons_succ])
        refine takeH 3 (some 24) (v := ?_) rfl rfl (by kernel_rfl) (by kernel_rfl) (by kernel_rfl) (fun _ _ _ h => h) (Or.inl ⟨by kernel_rfl, ?_⟩) hHeld ?_
        rotate_left
        · intro w' hSw
          (try dsimp only at hSw)
          go_simp
          try with_reducible rfl
        (try simp only [Act.put, List.setIfInBounds_toArray, List.set_cons_zero, List.set_cons_succ])
        refine takeH 4 (some 25) (v := ?_) rfl rfl (by kernel_rfl) (by kernel_rfl) (by kernel_rfl) (fun _ _ _ h => h) (Or.inl ⟨by kernel_rfl, ?_⟩) hHeld ?_
        rotate_left
        · intro w' hSw
          (try dsimp only at hSw)
          go_simp
          try with_reducible rfl
        (try simp only [Act.put, List.setIfInBounds_toArray, List.set_cons_zero, List.set_cons_succ])
        refine callH 5 (some 26) (f := 27) (args := ?_) rfl rfl (by kernel_rfl) (by kernel_rfl) ?_ ?_
        rotate_left
        · go_simp
          try with_reducible rfl
        refine (HAH.out _ (Below.refl _ _).drew).mono ?_; rintro e w5 ⟨rfl, kb, k0, k1, k2, k3⟩
        have hHeld1 := (⟨k0, k1, k2, k3⟩ : (fun w' => w'.cell? ⟨b, off + i * 2, none⟩ = some (.int .i64 (xi : Nat)) ∧ w'.cell? ⟨b, off + i * 2 + 1, none⟩ = some (.int .i64 (xj : Nat)) ∧ w'.cell? ⟨w.heap.size, 0, none⟩ = some (.int .i64 (ci : Nat)) ∧ w'.cell? ⟨w.heap.size, 1, none⟩ = some (.int .i64 (cj : Nat))) w5)
        refine ⟨_, rfl, hHeld1, ?_⟩
        (try simp only [Act.put, List.setIfInBounds_toArray, List.set_cons_zero, List.set_cons_succ])
        refine takeH 6 (some 27) (v := ?_) rfl rfl (by kernel_rfl) (by kernel_rfl) (by kernel_rfl) (fun _ _ _ h => h) (Or.inl ⟨by kernel_rfl, ?_⟩) hHeld1 ?_
        rotate_left
        · intro w' hSw
          (try dsimp only at hSw)
          go_simp
          try with_reducible rfl
        (try simp only [Act.put, List.setIfInBounds_toArray, List.set_cons_zero, List.set_cons_succ])
        refine takeH 7 (some 28) (v := undef) rfl rfl (by kernel_rfl) (by kernel_rfl) (by kernel_rfl) (fun _ _ _ h => h) (Or.inr ⟨by kernel_rfl, rfl⟩) hHeld1 ?_
        (try simp only [Act.put, List.setIfInBounds_toArray, List.set_cons_zero, List.set_cons_succ])
        refine takeH 8 (some 29) (v := undef) rfl rfl (by kernel_rfl) (by kernel_rfl) (by kernel_rfl) (fun _ _ _ h => h) (Or.inr ⟨by kernel_rfl, rfl⟩) hHeld1 ?_
        (try simp only [Act.put, List.setIfInBounds_toArray, List.set_cons_zero, List.set_cons_succ])
        refine takeH 9 (some 30) (v := undef) rfl rfl (by kernel_rfl) (by kernel_rfl) (by kernel_rfl) (fun _ _ _ h => h) (Or.inr ⟨by kernel_rfl, rfl⟩) hHeld1 ?_
        (try simp only [Act.put, List.setIfInBounds_toArray, List.set_cons_zero, List.set_cons_succ])
        refine takeH 10 (some 31) (v := undef) rfl rfl (by kernel_rfl) (by kernel_rfl) (by kernel_rfl) (fun _ _ _ h => h) (Or.inr ⟨by kernel_rfl, rfl⟩) hHeld1 ?_
        (try simp only [Act.put, List.setIfInBounds_toArray, List.set_cons_zero, List.set_cons_succ])
        refine takeH 11 (some 32) (v := undef) rfl rfl (by kernel_rfl) (by kernel_rfl) (by kernel_rfl) (fun _ _ _ h => h) (Or.inr ⟨by kernel_rfl, rfl⟩) hHeld1 ?_
        (try simp only [Act.put, List.setIfInBounds_toArray, List.set_cons_zero, List.set_cons_succ])
        refine takeH 12 (some 33) (v := undef) rfl rfl (by kernel_rfl) (by kernel_rfl) (by kernel_rfl) (fun _ _ _ h => h) (Or.inr ⟨by kernel_rfl, rfl⟩) hHeld1 ?_
        (try simp only [Act.put, List.setIfInBounds_toArray, List.set_cons_zero, List.set_cons_succ])
        refine takeH 13 (some 34) (v := undef) rfl rfl (by kernel_rfl) (by kernel_rfl) (by kernel_rfl) (fun _ _ _ h => h) (Or.inr ⟨by kernel_rfl, rfl⟩) hHeld1 ?_
        (try simp only [Act.put, List.setIfInBounds_toArray, List.set_cons_zero, List.set_cons_succ])
        refine takeH 14 (some 35) (v := ?_) rfl rfl (by kernel_rfl) (by kernel_rfl) (by kernel_rfl) (fun _ _ _ h => h) (Or.inl ⟨by kernel_rfl, ?_⟩) hHeld1 ?_
        rotate_left
        · intro w' hSw
          (try dsimp only at hSw)
          go_simp
          try with_reducible rfl
        (try simp only [Act.put, List.setIfInBounds_toArray, List.set_cons_zero, List.set_cons_succ])
        refine wpAnyH_done (by kernel_rfl) ?_ _
        go_wp2_with fail
        go_roundw
        case rel => exact ⟨_, rfl, by first | exact HI.out.1.trans (kb.mono HI.out.1.size) | exact (HI.out.1.trans (kb.mono HI.out.1.size)).drew | exact bdrewN (HI.out.1.trans (kb.mono HI.out.1.size)) _, HDN.out⟩
        case measure => first | (simp [intOf]; omega) | simp [intOf]
      | true =>
        cases b2 with
        | false =>
          have HNX : Hid (((P.take i).reverse.find? f).getD (0, 0) = res) := by
            show _ = _
            rw [← HI.out.2, HFD.out]; rfl
          have HDN : Hid (((i : Int) - 1 = -1 ∧ (0, 0) = res) ∨ ∃ k : Nat, k < N ∧ (i : Int) - 1 = (k : Nat) ∧ ((P.take (k + 1)).reverse.find? f).getD (0, 0) = res) := by
            by_cases h0 : i = 0
            · left; refine ⟨by omega, ?_⟩; have := HNX.out; rw [h0] at this; exact this
            · right; refine ⟨i - 1, by omega, by omega, ?_⟩; rw [show i - 1 + 1 = i by omega]; exact HNX.out
          go_wp2_with fail
          refine wp_region_held (S := fun w' => w'.cell? ⟨b, off + i * 2, none⟩ = some (.int .i64 (xi : Nat)) ∧ w'.cell? ⟨b, off + i * 2 + 1, none⟩ = some (.int .i64 (xj : Nat)) ∧ w'.cell? ⟨w.heap.size, 0, none⟩ = some (.int .i64 (ci : Nat)) ∧ w'.cell? ⟨w.heap.size, 1, none⟩ = some (.int .i64 (cj : Nat))) (by kernel_rfl) ?_
          change wpAnyH _ _ _ _ _ _ _ _ (World.drew _)
          have hHeld : (fun w' => w'.cell? ⟨b, off + i * 2, none⟩ = some (.int .i64 (xi : Nat)) ∧ w'.cell? ⟨b, off + i * 2 + 1, none⟩ = some (.int .i64 (xj : Nat)) ∧ w'.cell? ⟨w.heap.size, 0, none⟩ = some (.int .i64 (ci : Nat)) ∧ w'.cell? ⟨w.heap.size, 1, none⟩ = some (.int .i64 (cj : Nat))) (World.drew wr) := ⟨c0, c1, d0, d1⟩
          refine takeH 0 (some 21) (v := ?_) rfl rfl (by kernel_rfl) (by kernel_rfl) (by kernel_rfl) (fun _ _ _ h => h) (Or.inl ⟨by kernel_rfl, ?_⟩) hHeld ?_
          rotate_left
          · intro w' hSw
            (try dsimp only at hSw)
            go_simp
            try with_reducible rfl
          (try simp only [Act.put, List.setIfInBounds_toArray, List.set_cons_zero, List.set_cons_succ])
          refine takeH 1 (some 22) (v := ?_) rfl rfl (by kernel_rfl) (by kernel_rfl) (by kernel_rfl) (fun _ _ _ h => h) (Or.inl ⟨by kernel_rfl, ?_⟩) hHeld ?_
          rotate_left
          · intro w' hSw
            (try dsimp only at hSw)
            go_simp
            try with_reducible rfl
          (try simp only [Act.put, List.setIfInBounds_toArray, List.set_cons_zero, List.set_cons_succ])
          refine takeH 2 (some 23) (v := ?_) rfl rfl (by kernel_rfl) (by kernel_rfl) (by kernel_rfl) (fun _ _ _ h => h) (Or.inl ⟨by kernel_rfl, ?_⟩) hHeld ?_
          rotate_left
          · intro w' hSw
            (try dsimp only at hSw)
            go_simp
            try with_reducible rfl
          (try simp only [Act.put, List.setIfInBounds_toArray, List.set_cons_zero, List.set_cons_succ])
          refine takeH 3 (some 24) (v := ?_) rfl rfl (by kernel_rfl) (by kernel_rfl) (by kernel_rfl) (fun _ _ _ h => h) (Or.inl ⟨by kernel_rfl, ?_⟩) hHeld ?_
          rotate_left
          · intro w' hSw
            (try dsimp only at hSw)
            go_simp
            try with_reducible rfl
          (try simp only [Act.put, List.setIfInBounds_toArray, List.set_cons_zero, List.set_cons_succ])
          refine takeH 4 (some 25) (v := ?_) rfl rfl (by kernel_rfl) (by kernel_rfl) (by kernel_rfl) (fun _ _ _ h => h) (Or.inl ⟨by kernel_rfl, ?_⟩) hHeld ?_
          rotate_left
          · intro w' hSw
            (try dsimp only at hSw)
            go_simp
            try with_reducible rfl
          (try simp only [Act.put, List.setIfInBounds_toArray, List.set_cons_zero, List.set_cons_succ])
          refine callH 5 (some 26) (f := 27) (args := ?_) rfl rfl (by kernel_rfl) (by kernel_rfl) ?_ ?_
          rotate_left
          · go_simp
            try with_reducible rfl
          refine (HAH.out _ (Below.refl _ _).drew).mono ?_; rintro e w5 ⟨rfl, kb, k0, k1, k2, k3⟩
          have hHeld1 := (⟨k0, k1, k2, k3⟩ : (fun w' => w'.cell? ⟨b, off + i * 2, none⟩ = some (.int .i64 (xi : Nat)) ∧ w'.cell? ⟨b, off + i * 2 + 1, none⟩ = some (.int .i64 (xj : Nat)) ∧ w'.cell? ⟨w.heap.size, 0, none⟩ = some (.int .i64 (ci : Nat)) ∧ w'.cell? ⟨w.heap.size, 1, none⟩ = some (.int .i64 (cj : Nat))) w5)
          refine ⟨_, rfl, hHeld1, ?_⟩
          (try simp only [Act.put, List.setIfInBounds_toArray, List.set_cons_zero, List.set_cons_succ])
          refine takeH 6 (some 27) (v := ?_) rfl rfl (by kernel_rfl) (by kernel_rfl) (by kernel_rfl) (fun _ _ _ h => h) (Or.inl ⟨by kernel_rfl, ?_⟩) hHeld1 ?_
          rotate_left
          · intro w' hSw
            (try dsimp only at hSw)
            go_simp
            try with_reducible rfl
          (try simp only [Act.put, List.setIfInBounds_toArray, List.set_cons_zero, List.set_cons_succ])
          refine takeH 7 (some 28) (v := ?_) rfl rfl (by kernel_rfl) (by kernel_rfl) (by kernel_rfl) (fun _ _ _ h => h) (Or.inl ⟨by kernel_rfl, ?_⟩) hHeld1 ?_
          rotate_left
          · intro w' hSw
            (try dsimp only at hSw)
            go_simp
            try with_reducible rfl
          (try simp only [Act.put, List.setIfInBounds_toArray, List.set_cons_zero, List.set_cons_succ])
          refine takeH 8 (some 29) (v := ?_) rfl rfl (by kernel_rfl) (by kernel_rfl) (by kernel_rfl) (fun _ _ _ h => h) (Or.inl ⟨by kernel_rfl, ?_⟩) hHeld1 ?_
          rotate_left
          · intro w' hSw
            (try dsimp only at hSw)
            go_simp
            try with_reducible rfl
          (try simp only [Act.put, List.setIfInBounds_toArray, List.set_cons_zero, List.set_cons_succ])
          refine takeH 9 (some 30) (v := ?_) rfl rfl (by kernel_rfl) (by kernel_rfl) (by kernel_rfl) (fun _ _ _ h => h) (Or.inl ⟨by kernel_rfl, ?_⟩) hHeld1 ?_
          rotate_left
          · intro w' hSw
            (try dsimp only at hSw)
            go_simp
            try with_reducible rfl
          (try simp only [Act.put, List.setIfInBounds_toArray, List.set_cons_zero, List.set_cons_succ])
          refine takeH 10 (some 31) (v := ?_) rfl rfl (by kernel_rfl) (by kernel_rfl) (by kernel_rfl) (fun _ _ _ h => h) (Or.inl ⟨by kernel_rfl, ?_⟩) hHeld1 ?_
          rotate_left
          · intro w' hSw
            (try dsimp only at hSw)
            go_simp
            try with_reducible rfl
          (try simp only [Act.put, List.setIfInBounds_toArray, List.set_cons_zero, List.set_cons_succ])
          refine takeH 11 (some 32) (v := ?_) rfl rfl (by kernel_rfl) (by kernel_rfl) (by kernel_rfl) (fun _ _ _ h => h) (Or.inl ⟨by kernel_rfl, ?_⟩) hHeld1 ?_
          rotate_left
          · intro w' hSw
            (try dsimp only at hSw)
            go_simp
            try with_reducible rfl
          (try simp only [Act.put, List.setIfInBounds_toArray, List.set_cons_zero, List.set_cons_succ])
          refine takeH 12 (some 33) (v := ?_) rfl rfl (by kernel_rfl) (by kernel_rfl) (by kernel_rfl) (fun _ _ _ h => h) (Or.inl ⟨by kernel_rfl, ?_⟩) hHeld1 ?_
          rotate_left
          · intro w' hSw
            (try dsimp only at hSw)
            go_simp
            try with_reducible rfl
          (try simp only [Act.put, List.setIfInBounds_toArray, List.set_cons_zero, List.set_cons_succ])
          refine callH 13 (some 34) (f := 36) (args := ?_) rfl rfl (by kernel_rfl) (by kernel_rfl) ?_ ?_
          rotate_left
          · go_simp
            try with_reducible rfl
          refine (HIS.out _ kb).mono ?_; rintro e w6 ⟨rfl, mb, m0, m1, m2, m3, HM⟩
          have hHeld12 := (⟨m0, m1, m2, m3⟩ : (fun w' => w'.cell? ⟨b, off + i * 2, none⟩ = some (.int .i64 (xi : Nat)) ∧ w'.cell? ⟨b, off + i * 2 + 1, none⟩ = some (.int .i64 (xj : Nat)) ∧ w'.cell? ⟨w.heap.size, 0, none⟩ = some (.int .i64 (ci : Nat)) ∧ w'.cell? ⟨w.heap.size, 1, none⟩ = some (.int .i64 (cj : Nat))) w6)
          refine ⟨_, rfl, hHeld12, ?_⟩
          (try simp only [Act.put, List.setIfInBounds_toArray, List.set_cons_zero, List.set_cons_succ])
          refine takeH 14 (some 35) (v := ?_) rfl rfl (by kernel_rfl) (by kernel_rfl) (by kernel_rfl) (fun _ _ _ h => h) (Or.inl ⟨by kernel_rfl, ?_⟩) hHeld12 ?_
          rotate_left
          · intro w' hSw
            (try dsimp only at hSw)
            go_simp
            try with_reducible rfl
          (try simp only [Act.put, List.setIfInBounds_toArray, List.set_cons_zero, List.set_cons_succ])
          refine wpAnyH_done (by kernel_rfl) ?_ _
          go_wp2_with fail
          go_roundw
          case rel => exact ⟨_, rfl, by first | exact HI.out.1.trans (mb.mono HI.out.1.size) | exact (HI.out.1.trans (mb.mono HI.out.1.size)).drew | exact bdrewN (HI.out.1.trans (mb.mono HI.out.1.size)) _, HDN.out⟩
          case measure => first | (simp [intOf]; omega) | simp [intOf]
        | true =>
          have hrx : (xi, xj) = res := by
            rw [← HI.out.2, HFD.out]; rfl
          have HRX := Lib.hid hrx
          clear hrx
          go_wp2_with fail
          refine wp_region_held (S := fun w' => w'.cell? ⟨b, off + i * 2, none⟩ = some (.int .i64 (xi : Nat)) ∧ w'.cell? ⟨b, off + i * 2 + 1, none⟩ = some (.int .i64 (xj : Nat)) ∧ w'.cell? ⟨w.heap.size, 0, none⟩ = some (.int .i64 (ci : Nat)) ∧ w'.cell? ⟨w.heap.size, 1, none⟩ = some (.int .i64 (cj : Nat))) (by kernel_rfl) ?_
          change wpAnyH _ _ _ _ _ _ _ _ (World.drew _)
          have hHeld : (fun w' => w'.cell? ⟨b, off + i * 2, none⟩ = some (.int .i64 (xi : Nat)) ∧ w'.cell? ⟨b, off + i * 2 + 1, none⟩ = some (.int .i64 (xj : Nat)) ∧ w'.cell? ⟨w.heap.size, 0, none⟩ = some (.int .i64 (ci : Nat)) ∧ w'.cell? ⟨w.heap.size, 1, none⟩ = some (.int .i64 (cj : Nat))) (World.drew wr) := ⟨c0, c1, d0, d1⟩
          refine takeH 0 (some 21) (v := ?_) rfl rfl (by kernel_rfl) (by kernel_rfl) (by kernel_rfl) (fun _ _ _ h => h) (Or.inl ⟨by kernel_rfl, ?_⟩) hHeld ?_
          rotate_left
          · intro w' hSw
            (try dsimp only at hSw)
            go_simp
            try with_reducible rfl
          (try simp only [Act.put, List.setIfInBounds_toArray, List.set_cons_zero, List.set_cons_succ])
          refine takeH 1 (some 22) (v := ?_) rfl rfl (by kernel_rfl) (by kernel_rfl) (by kernel_rfl) (fun _ _ _ h => h) (Or.inl ⟨by kernel_rfl, ?_⟩) hHeld ?_
          rotate_left
          · intro w' hSw
            (try dsimp only at hSw)
            go_simp
            try with_reducible rfl
          (try simp only [Act.put, List.setIfInBounds_toArray, List.set_cons_zero, List.set_cons_succ])
          refine takeH 2 (some 23) (v := ?_) rfl rfl (by kernel_rfl) (by kernel_rfl) (by kernel_rfl) (fun _ _ _ h => h) (Or.inl ⟨by kernel_rfl, ?_⟩) hHeld ?_
          rotate_left
          · intro w' hSw
            (try dsimp only at hSw)
            go_simp
            try with_reducible rfl
          (try simp only [Act.put, List.setIfInBounds_toArray, List.set_cons_zero, List.set_cons_succ])
          refine takeH 3 (some 24) (v := ?_) rfl rfl (by kernel_rfl) (by kernel_rfl) (by kernel_rfl) (fun _ _ _ h => h) (Or.inl ⟨by kernel_rfl, ?_⟩) hHeld ?_
          rotate_left
          · intro w' hSw
            (try dsimp only at hSw)
            go_simp
            try with_reducible rfl
          (try simp only [Act.put, List.setIfInBounds_toArray, List.set_cons_zero, List.set_cons_succ])
          refine takeH 4 (some 25) (v := ?_) rfl rfl (by kernel_rfl) (by kernel_rfl) (by kernel_rfl) (fun _ _ _ h => h) (Or.inl ⟨by kernel_rfl, ?_⟩) hHeld ?_
          rotate_left
          · intro w' hSw
            (try dsimp only at hSw)
            go_simp
            try with_reducible rfl
          (try simp only [Act.put, List.setIfInBounds_toArray, List.set_cons_zero, List.set_cons_succ])
          refine callH 5 (some 26) (f := 27) (args := ?_) rfl rfl (by kernel_rfl) (by kernel_rfl) ?_ ?_
          rotate_left
          · go_simp
            try with_reducible rfl
          refine (HAH.out _ (Below.refl _ _).drew).mono ?_; rintro e w5 ⟨rfl, kb, k0, k1, k2, k3⟩
          have hHeld1 := (⟨k0, k1, k2, k3⟩ : (fun w' => w'.cell? ⟨b, off + i * 2, none⟩ = some (.int .i64 (xi : Nat)) ∧ w'.cell? ⟨b, off + i * 2 + 1, none⟩ = some (.int .i64 (xj : Nat)) ∧ w'.cell? ⟨w.heap.size, 0, none⟩ = some (.int .i64 (ci : Nat)) ∧ w'.cell? ⟨w.heap.size, 1, none⟩ = some (.int .i64 (cj : Nat))) w5)
          refine ⟨_, rfl, hHeld1, ?_⟩
          (try simp only [Act.put, List.setIfInBounds_toArray, List.set_cons_zero, List.set_cons_succ])
          refine takeH 6 (some 27) (v := ?_) rfl rfl (by kernel_rfl) (by kernel_rfl) (by kernel_rfl) (fun _ _ _ h => h) (Or.inl ⟨by kernel_rfl, ?_⟩) hHeld1 ?_
          rotate_left
          · intro w' hSw
            (try dsimp only at hSw)
            go_simp
            try with_reducible rfl
          (try simp only [Act.put, List.setIfInBounds_toArray, List.set_cons_zero, List.set_cons_succ])
          refine takeH 7 (some 28) (v := ?_) rfl rfl (by kernel_rfl) (by kernel_rfl) (by kernel_rfl) (fun _ _ _ h => h) (Or.inl ⟨by kernel_rfl, ?_⟩) hHeld1 ?_
          rotate_left
          · intro w' hSw
            (try dsimp only at hSw)
            go_simp
            try with_reducible rfl
          (try simp only [Act.put, List.setIfInBounds_toArray, List.set_cons_zero, List.set_cons_succ])
          refine takeH 8 (some 29) (v := ?_) rfl rfl (by kernel_rfl) (by kernel_rfl) (by kernel_rfl) (fun _ _ _ h => h) (Or.inl ⟨by kernel_rfl, ?_⟩) hHeld1 ?_
          rotate_left
          · intro w' hSw
            (try dsimp only at hSw)
            go_simp
            try with_reducible rfl
          (try simp only [Act.put, List.setIfInBounds_toArray, List.set_cons_zero, List.set_cons_succ])
          refine takeH 9 (some 30) (v := ?_) rfl rfl (by kernel_rfl) (by kernel_rfl) (by kernel_rfl) (fun _ _ _ h => h) (Or.inl ⟨by kernel_rfl, ?_⟩) hHeld1 ?_
          rotate_left
          · intro w' hSw
            (try dsimp only at hSw)
            go_simp
            try with_reducible rfl
          (try simp only [Act.put, List.setIfInBounds_toArray, List.set_cons_zero, List.set_cons_succ])
          refine takeH 10 (some 31) (v := ?_) rfl rfl (by kernel_rfl) (by kernel_rfl) (by kernel_rfl) (fun _ _ _ h => h) (Or.inl ⟨by kernel_rfl, ?_⟩) hHeld1 ?_
          rotate_left
          · intro w' hSw
            (try dsimp only at hSw)
            go_simp
            try with_reducible rfl
          (try simp only [Act.put, List.setIfInBounds_toArray, List.set_cons_zero, List.set_cons_succ])
          refine takeH 11 (some 32) (v := ?_) rfl rfl (by kernel_rfl) (by kernel_rfl) (by kernel_rfl) (fun _ _ _ h => h) (Or.inl ⟨by kernel_rfl, ?_⟩) hHeld1 ?_
          rotate_left
          · intro w' hSw
            (try dsimp only at hSw)
            go_simp
            try with_reducible rfl
          (try simp only [Act.put, List.setIfInBounds_toArray, List.set_cons_zero, List.set_cons_succ])
          refine takeH 12 (some 33) (v := ?_) rfl rfl (by kernel_rfl) (by kernel_rfl) (by kernel_rfl) (fun _ _ _ h => h) (Or.inl ⟨by kernel_rfl, ?_⟩) hHeld1 ?_
          rotate_left
          · intro w' hSw
            (try dsimp only at hSw)
            go_simp
            try with_reducible rfl
          (try simp only [Act.put, List.setIfInBounds_toArray, List.set_cons_zero, List.set_cons_succ])
          refine callH 13 (some 34) (f := 36) (args := ?_) rfl rfl (by kernel_rfl) (by kernel_rfl) ?_ ?_
          rotate_left
          · go_simp
            try with_reducible rfl
          refine (HIS.out _ kb).mono ?_; rintro e w6 ⟨rfl, mb, m0, m1, m2, m3, HM⟩
          have hHeld12 := (⟨m0, m1, m2, m3⟩ : (fun w' => w'.cell? ⟨b, off + i * 2, none⟩ = some (.int .i64 (xi : Nat)) ∧ w'.cell? ⟨b, off + i * 2 + 1, none⟩ = some (.int .i64 (xj : Nat)) ∧ w'.cell? ⟨w.heap.size, 0, none⟩ = some (.int .i64 (ci : Nat)) ∧ w'.cell? ⟨w.heap.size, 1, none⟩ = some (.int .i64 (cj : Nat))) w6)
          refine ⟨_, rfl, hHeld12, ?_⟩
          (try simp only [Act.put, List.setIfInBounds_toArray, List.set_cons_zero, List.set_cons_succ])
          refine takeH 14 (some 35) (v := ?_) rfl rfl (by kernel_rfl) (by kernel_rfl) (by kernel_rfl) (fun _ _ _ h => h) (Or.inl ⟨by kernel_rfl, ?_⟩) hHeld12 ?_
          rotate_left
          · intro w' hSw
            (try dsimp only at hSw)
            go_simp
            try with_reducible rfl
          (try simp only [Act.put, List.setIfInBounds_toArray, List.set_cons_zero, List.set_cons_succ])
          refine wpAnyH_done (by kernel_rfl) ?_ _
          obtain ⟨f0, f1, f2, f3⟩ := row2 HM.out
          go_wp2_with fail
          refine bodyPost_ret (v := .agg #[.int .i64 (xi : Nat), .int .i64 (xj : Nat)]) ?_ rfl ⟨?_, ?_⟩
          · rw [results_cell1 rfl]
            go_simp
          · rw [← HRX.out]; rfl
          · have h2 := HBW.out.trans (mb.mono HBW.out.size)
            (repeat' (first | exact h2 | omega | refine setCell_below ?_ _ _ _ ?_ | refine Below.drew ?_ | refine bdrewN ?_ _))
    · have HRX := Lib.hid hi
      have hbw : Below w.heap.size w wr := (H4B.out.1.trans (HI0.out.1.mono H4B.out.1.size))
      have HBW := Lib.hid hbw
      have g2 := (HI0.out.1.block _ (heap_lt H4B.out.2.2)).trans H4B.out.2.2
      obtain ⟨f0, f1, f2, f3⟩ := row2 g2
      clear hbw g2 hi
      go_wp2_with fail
      refine bodyPost_ret (v := plV (0, 0)) ?_ rfl ⟨?_, ?_⟩
      · rw [results_cell1 rfl]
        go_simp
        rfl
      · rw [← HRX.out]
      · have h2 := HBW.out
        (repeat' (first | exact h2 | omega | refine setCell_below ?_ _ _ _ ?_ | refine Below.drew ?_ | refine bdrewN ?_ _))
end Go.Proofs.Ytnegijbdgefaoaa.U
