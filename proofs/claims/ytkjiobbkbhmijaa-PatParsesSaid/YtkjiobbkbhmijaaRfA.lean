/-
  The document's reader: its states; where an alternative ends; parts without parts; a fault.
-/
import Derived.Test.YtkjiobbkbhmijaaRfIs
import Derived.Test.YtkjiobbkbhmijaaRNz
namespace Go.Proofs.Ytkjiobbkbhmijaa.U
open Go.RowKit
set_option linter.unusedVariables false
set_option linter.unusedSimpArgs false
set_option maxRecDepth 100000

theorem RfS.fr {F : Nat → Prop} {w w' : World} {br : Nat} {p : List Int} {i n o er : Int} (h : RfS w br p i n o er) (hf : Fr F w w') (hF : ∀ k, F k → br < k) : RfS w' br p i n o er := by
  obtain ⟨a, cap, h1, h2, h3⟩ := h
  exact ⟨a, cap, (hf.block br (heap_lt h1) (fun e => by have := hF _ e; omega)).trans h1, h2.frF h3 hf (fun k hk e => by have := hF _ e; omega), h3⟩
theorem RfS.lt {w : World} {br : Nat} {p : List Int} {i n o er : Int} (h : RfS w br p i n o er) : br < w.heap.size := by obtain ⟨_, _, h, _⟩ := h; exact heap_lt h
/-- at what is left of a pattern, so many groups begun, so many open, no fault -/
def RfN (w : World) (br : Nat) (p l : List Int) (n o : Nat) : Prop :=
  ∃ i : Nat, RfS w br p i n o 0 ∧ l = p.drop i ∧ i ≤ p.length ∧ n ≤ i ∧ p.length ≤ 1000000 ∧ o ≤ 16
/-- with a fault -/
def RfX (w : World) (br : Nat) (p : List Int) (c : Int) : Prop := ∃ i n o : Int, RfS w br p i n o c
theorem RfN.lt {w : World} {br : Nat} {p l : List Int} {n o : Nat} (h : RfN w br p l n o) : br < w.heap.size := by obtain ⟨_, h, _⟩ := h; exact h.lt
theorem RfN.fr {F : Nat → Prop} {w w' : World} {br : Nat} {p l : List Int} {n o : Nat} (h : RfN w br p l n o) (hf : Fr F w w') (hF : ∀ k, F k → br < k) : RfN w' br p l n o := by
  obtain ⟨i, h1, r⟩ := h; exact ⟨i, h1.fr hf hF, r⟩
theorem RfN.below {w w' : World} {br : Nat} {p l : List Int} {n o : Nat} (h : RfN w br p l n o) (hb : Below w.heap.size w w') : RfN w' br p l n o := h.fr (Fr.of_below (fun _ => False) hb) (fun _ h => h.elim)
theorem RfX.fr {F : Nat → Prop} {w w' : World} {br : Nat} {p : List Int} {c : Int} (h : RfX w br p c) (hf : Fr F w w') (hF : ∀ k, F k → br < k) : RfX w' br p c := by
  obtain ⟨i, n, o, h1⟩ := h; exact ⟨i, n, o, h1.fr hf hF⟩
theorem RfX.below {w w' : World} {br : Nat} {p : List Int} {c : Int} (h : RfX w br p c) (hb : Below w.heap.size w w') : RfX w' br p c := h.fr (Fr.of_below (fun _ => False) hb) (fun _ h => h.elim)
theorem RfN.len {w : World} {br : Nat} {p l : List Int} {n o : Nat} (h : RfN w br p l n o) : l.length ≤ p.length := by
  obtain ⟨i, h1, h4, _⟩ := h; rw [h4]; simp
theorem RfN.room {w : World} {br : Nat} {p l : List Int} {n o : Nat} (h : RfN w br p l n o) : n + l.length ≤ p.length ∧ p.length ≤ 1000000 ∧ o ≤ 16 := by
  obtain ⟨i, h1, h4, h5, h6, h7, h8⟩ := h
  rw [h4, List.length_drop]
  omega
/-- its cells -/
theorem RfN.cells {w : World} {br : Nat} {p l : List Int} {n o : Nat} (h : RfN w br p l n o) : ∃ (a : Option Addr) (cap i : Nat), w.cell? ⟨br, 0, none⟩ = some (.slice a p.length cap) ∧ w.cell? ⟨br, 1, none⟩ = some (.int .i64 (i : Nat)) ∧ w.cell? ⟨br, 2, none⟩ = some (.int .i64 (n : Nat)) ∧ w.cell? ⟨br, 3, none⟩ = some (.int .i64 (o : Nat)) ∧ w.cell? ⟨br, 4, none⟩ = some (.int .i64 0) ∧
    (∀ j, w.frozen? ⟨br, j, none⟩ = false) ∧ Rd .i32 w a p.length cap p ∧ RfS w br p i n o 0 ∧ l = p.drop i ∧ i ≤ p.length ∧ n ≤ i ∧ p.length ≤ 1000000 ∧ o ≤ 16 := by
  obtain ⟨i, hs, r⟩ := h
  have hs' := hs
  obtain ⟨a, cap, h1, h2, h3⟩ := hs'
  exact ⟨a, cap, i, by rw [cell_row h1]; rfl, by rw [cell_row h1]; rfl, by rw [cell_row h1]; rfl, by rw [cell_row h1]; rfl, by rw [cell_row h1]; rfl, frozen_row h1, h2, hs, r⟩
theorem RfS.setAt {w : World} {br : Nat} {p : List Int} {i n o er : Int} (h : RfS w br p i n o er) (j : Int) : RfS (w.setCell ⟨br, 1, none⟩ (.int .i64 j)) br p j n o er ∧ Fr (· = br) w (w.setCell ⟨br, 1, none⟩ (.int .i64 j)) := by
  obtain ⟨a, cap, h1, h2, h3⟩ := h
  have hf : Fr (· = br) w (w.setCell ⟨br, 1, none⟩ (.int .i64 j)) := (Fr.refl (· = br) w).setCell ⟨br, 1, none⟩ _ (fun _ => rfl)
  exact ⟨⟨a, cap, heap_set h1 1 _, h2.frF h3 hf (fun k hk e => by omega), h3⟩, hf⟩
theorem RfS.setN {w : World} {br : Nat} {p : List Int} {i n o er : Int} (h : RfS w br p i n o er) (j : Int) : RfS (w.setCell ⟨br, 2, none⟩ (.int .i64 j)) br p i j o er ∧ Fr (· = br) w (w.setCell ⟨br, 2, none⟩ (.int .i64 j)) := by
  obtain ⟨a, cap, h1, h2, h3⟩ := h
  have hf : Fr (· = br) w (w.setCell ⟨br, 2, none⟩ (.int .i64 j)) := (Fr.refl (· = br) w).setCell ⟨br, 2, none⟩ _ (fun _ => rfl)
  exact ⟨⟨a, cap, heap_set h1 2 _, h2.frF h3 hf (fun k hk e => by omega), h3⟩, hf⟩
theorem RfS.setO {w : World} {br : Nat} {p : List Int} {i n o er : Int} (h : RfS w br p i n o er) (j : Int) : RfS (w.setCell ⟨br, 3, none⟩ (.int .i64 j)) br p i n j er ∧ Fr (· = br) w (w.setCell ⟨br, 3, none⟩ (.int .i64 j)) := by
  obtain ⟨a, cap, h1, h2, h3⟩ := h
  have hf : Fr (· = br) w (w.setCell ⟨br, 3, none⟩ (.int .i64 j)) := (Fr.refl (· = br) w).setCell ⟨br, 3, none⟩ _ (fun _ => rfl)
  exact ⟨⟨a, cap, heap_set h1 3 _, h2.frF h3 hf (fun k hk e => by omega), h3⟩, hf⟩
theorem RfS.setE {w : World} {br : Nat} {p : List Int} {i n o er : Int} (h : RfS w br p i n o er) (j : Int) : RfS (w.setCell ⟨br, 4, none⟩ (.int .i64 j)) br p i n o j ∧ Fr (· = br) w (w.setCell ⟨br, 4, none⟩ (.int .i64 j)) := by
  obtain ⟨a, cap, h1, h2, h3⟩ := h
  have hf : Fr (· = br) w (w.setCell ⟨br, 4, none⟩ (.int .i64 j)) := (Fr.refl (· = br) w).setCell ⟨br, 4, none⟩ _ (fun _ => rfl)
  exact ⟨⟨a, cap, heap_set h1 4 _, h2.frF h3 hf (fun k hk e => by omega), h3⟩, hf⟩
/-- taken on -/
theorem RfN.take {w : World} {br : Nat} {p l : List Int} {n o i : Nat} (h : RfS w br p i n o 0) (hl : l = p.drop i) (hi : i ≤ p.length) (hn : n ≤ i) (hp : p.length ≤ 1000000) (ho : o ≤ 16) (k : Nat) (hk : k ≤ l.length) (j : Int) (hj : j = ((i + k : Nat) : Int)) :
    RfN (w.setCell ⟨br, 1, none⟩ (.int .i64 j)) br p (l.drop k) n o ∧ Fr (· = br) w (w.setCell ⟨br, 1, none⟩ (.int .i64 j)) := by
  subst hj
  have h1 := h.setAt ((i + k : Nat) : Int)
  have hll : l.length = p.length - i := by rw [hl]; simp
  exact ⟨⟨i + k, h1.1, by rw [hl, List.drop_drop], by omega, by omega, hp, ho⟩, h1.2⟩

/-- what the document's reading functions leave -/
def RfAns (w : World) (br : Nat) (p : List Int) (o : Nat) (r : Rs (Re × List Int × Nat)) (e : Ending) (w' : World) : Prop :=
  match r with
  | .error c => ∃ k4 r4 sa4 sn4 sc4 nt4 l4 h4 pa4 pn4 pc4, e = .returned (.agg #[.int .i64 k4, .int .i32 r4, .slice sa4 sn4 sc4, .bool nt4, .int .i64 l4, .int .i64 h4, .slice pa4 pn4 pc4]) ∧ RfX w' br p c ∧ Fr (· = br) w w'
  | .ok (y, l', n') => ∃ k4 r4 sa4 sn4 sc4 nt4 l4 h4 pa4 pn4 pc4, e = .returned (.agg #[.int .i64 k4, .int .i32 r4, .slice sa4 sn4 sc4, .bool nt4, .int .i64 l4, .int .i64 h4, .slice pa4 pn4 pc4]) ∧ ReAt (New w w') w' [.int .i64 k4, .int .i32 r4, .slice sa4 sn4 sc4, .bool nt4, .int .i64 l4, .int .i64 h4, .slice pa4 pn4 pc4] y ∧ RfN w' br p l' n' o ∧ Fr (· = br) w w'
/-- an answer in the result's block -/
theorem RfAns.put {w w2 W : World} {br : Nat} {p l' : List Int} {n' o : Nat} {y : Re} {v : List Value} (hR : w.heap.size < w2.heap.size) (hb : Fr (fun k => k = br ∨ w.heap.size ≤ k) w w2) (hp : ReAt (fun k => w.heap.size < k ∧ k < w2.heap.size) w2 v y) (hr : RfN w2 br p l' n' o) (hbr : br < w.heap.size) (hf : Fr (fun j => j = w.heap.size) w2 W) :
    ReAt (New w W) W v y ∧ RfN W br p l' n' o ∧ Fr (· = br) w W := by
  have hs := hf.size
  refine ⟨ReAt.mono (fun k hk => ⟨by have := hk.1; omega, by have := hk.2; omega⟩) y (ReAt.frF hf (fun k hk e => by omega) y hp), hr.fr hf (fun k e => by omega), ?_⟩
  have h6 : Fr (fun k => k = br ∨ w.heap.size ≤ k) w W := hb.trans hf (fun k _ e => Or.inr (by omega))
  exact ⟨h6.os, h6.tape, h6.output, h6.size, fun k hk hne => h6.block k hk (fun e => e.elim hne (fun e => by omega))⟩
theorem RfAns.putX {w w2 W : World} {br : Nat} {p : List Int} {c : Int} (hb : Fr (fun k => k = br ∨ w.heap.size ≤ k) w w2) (hr : RfX w2 br p c) (hbr : br < w.heap.size) (hf : Fr (fun j => j = w.heap.size) w2 W) :
    RfX W br p c ∧ Fr (· = br) w W := by
  refine ⟨hr.fr hf (fun k e => by omega), ?_⟩
  have h6 : Fr (fun k => k = br ∨ w.heap.size ≤ k) w W := hb.trans hf (fun k _ e => Or.inr (by omega))
  exact ⟨h6.os, h6.tape, h6.output, h6.size, fun k hk hne => h6.block k hk (fun e => e.elim hne (fun e => by omega))⟩
theorem RfAns.ok {w w' : World} {br : Nat} {p l' : List Int} {n' o : Nat} {y : Re} {k4 r4 : Int} {sa4 : Option Addr} {sn4 sc4 : Nat} {nt4 : Bool} {l4 h4 : Int} {pa4 : Option Addr} {pn4 pc4 : Nat} (k : ReAt (New w w') w' [.int .i64 k4, .int .i32 r4, .slice sa4 sn4 sc4, .bool nt4, .int .i64 l4, .int .i64 h4, .slice pa4 pn4 pc4] y ∧ RfN w' br p l' n' o ∧ Fr (· = br) w w') : RfAns w br p o (.ok (y, l', n')) (.returned (.agg #[.int .i64 k4, .int .i32 r4, .slice sa4 sn4 sc4, .bool nt4, .int .i64 l4, .int .i64 h4, .slice pa4 pn4 pc4])) w' := ⟨k4, r4, sa4, sn4, sc4, nt4, l4, h4, pa4, pn4, pc4, rfl, k⟩
theorem RfAns.err {w w' : World} {br : Nat} {p : List Int} {o : Nat} {c : Int} {k4 r4 : Int} {sa4 : Option Addr} {sn4 sc4 : Nat} {nt4 : Bool} {l4 h4 : Int} {pa4 : Option Addr} {pn4 pc4 : Nat} (k : RfX w' br p c ∧ Fr (· = br) w w') : RfAns w br p o (.error c) (.returned (.agg #[.int .i64 k4, .int .i32 r4, .slice sa4 sn4 sc4, .bool nt4, .int .i64 l4, .int .i64 h4, .slice pa4 pn4 pc4])) w' := ⟨k4, r4, sa4, sn4, sc4, nt4, l4, h4, pa4, pn4, pc4, rfl, k⟩

theorem isEmpty_drop (p : List Int) (i : Nat) : (p.drop i).isEmpty = decide (p.length ≤ i) := by
  rw [Bool.eq_iff_iff, List.isEmpty_iff, List.drop_eq_nil_iff, decide_eq_true_eq]
set_option maxHeartbeats 1000000 in
theorem ends_any (br : Nat) (p : List Int) (i n o er : Int) (k : Nat) (w : World) (h : RfS w br p i n o er) (hk : k ≤ 4000000) :
    Calls Try.prog 28 #[.pointer (some ⟨br, 0, none⟩), .int .i64 (k : Nat)] w fun e w' => e = .returned (.bool (ended (p.drop k))) ∧ Below w.heap.size w w' := by
  have H1 := Lib.hid (is_124 br p i n o er k w h hk)
  have H2 : Hid (∀ W, Below w.heap.size w W → Calls Try.prog 26 #[.pointer (some ⟨br, 0, none⟩), .int .i64 (k : Nat), .string ⟨#[92, 41]⟩] W fun e w' => e = .returned (.bool (pre [92, 41] (p.drop k))) ∧ Below W.heap.size W w') := fun W hW => is_41 br p i n o er k W (h.fr (Fr.of_below (fun _ => False) hW) (fun _ h => h.elim)) hk
  have HE : Hid (ended (p.drop k) = (decide (p.length ≤ k) || pre [92, 124] (p.drop k) || pre [92, 41] (p.drop k))) := by show _ = _; unfold ended; rw [isEmpty_drop]
  obtain ⟨a, cap, hg, hr, -⟩ := h
  have hsm := hr.small
  obtain ⟨q, hq⟩ : ∃ q, p.length = q := ⟨_, rfl⟩
  rw [hq] at hg hsm HE
  have e0 : w.cell? ⟨br, 0, none⟩ = some (.slice a q cap) := by rw [cell_row hg]; rfl
  clear hr hq hg
  by_cases hkq : q ≤ k
  · have g1 : (q : Int) ≤ (k : Int) := by omega
    have HF : Hid (ended (p.drop k) = true) := by show _ = _; rw [HE.out]; simp [hkq]
    go_enter Try.func28, Try.ntmps28
    go_wp2
    go_ret
    exact ⟨by rw [HF.out]; rfl, Below.refl _ _⟩
  have g1 : ¬ (q : Int) ≤ (k : Int) := by omega
  cases h1 : pre [92, 124] (p.drop k) with
  | true =>
    rw [h1] at H1
    have HF : Hid (ended (p.drop k) = true) := by show _ = _; rw [HE.out, h1]; simp
    clear h1
    go_enter Try.func28, Try.ntmps28
    go_wp2_with (go_at_call 26; refine H1.out.mono ?_; rintro e w2 ⟨rfl, hb⟩; have HB := Lib.hid hb; clear hb)
    go_ret
    exact ⟨by rw [HF.out]; rfl, HB.out⟩
  | false =>
    rw [h1] at H1
    have tk1 : True := trivial
    have tk2 : True := trivial
    cases h2 : pre [92, 41] (p.drop k) with
    | true =>
      rw [h2] at H2
      have HF : Hid (ended (p.drop k) = true) := by show _ = _; rw [HE.out, h1, h2]; simp
      clear h1 h2
      go_enter Try.func28, Try.ntmps28
      go_wp2_with (first
        | (go_at_call 26; have _t := tk1; refine H1.out.mono ?_; clear tk1 _t; rintro e w2 ⟨rfl, hb⟩; have HB := Lib.hid hb; clear hb)
        | (go_at_call 26; have _t := tk2; refine (H2.out _ HB.out).mono ?_; clear tk2 _t; rintro e w3 ⟨rfl, hb⟩; have HB3 := Lib.hid hb; clear hb))
      go_ret
      exact ⟨by rw [HF.out]; rfl, btr HB.out HB3.out⟩
    | false =>
      rw [h2] at H2
      have HF : Hid (ended (p.drop k) = false) := by show _ = _; rw [HE.out, h1, h2]; simp [hkq]
      clear h1 h2
      go_enter Try.func28, Try.ntmps28
      go_wp2_with (first
        | (go_at_call 26; have _t := tk1; refine H1.out.mono ?_; clear tk1 _t; rintro e w2 ⟨rfl, hb⟩; have HB := Lib.hid hb; clear hb)
        | (go_at_call 26; have _t := tk2; refine (H2.out _ HB.out).mono ?_; clear tk2 _t; rintro e w3 ⟨rfl, hb⟩; have HB3 := Lib.hid hb; clear hb))
      go_ret
      exact ⟨by rw [HF.out]; rfl, btr HB.out HB3.out⟩
/-- the result's block, laid first -/
theorem res7 (w : World) : ∃ w1, w.alloc (.cells #[.int .i64 0, .int .i32 0, .slice none 0 0, .bool false, .int .i64 0, .int .i64 0, .slice none 0 0] 26) = w1 ∧ Below w.heap.size w w1 ∧ w1.heap[w.heap.size]? = some (.cells #[.int .i64 0, .int .i32 0, .slice none 0 0, .bool false, .int .i64 0, .int .i64 0, .slice none 0 0] 26 (0, 0)) := ⟨_, rfl, bal _ _, heap_alloc_new w _⟩
set_option maxHeartbeats 1000000 in
theorem kind_any (br : Nat) (p l : List Int) (n o : Nat) (w : World) (h : RfN w br p l n o) (k : Int) (m : Nat) (M : Int) (hM : M = m) (hm : m ≤ l.length) :
    Calls Try.prog 35 #[.pointer (some ⟨br, 0, none⟩), .int .i64 k, .int .i64 M] w (RfAns w br p o (.ok (Re.one k, l.drop m, n))) := by
  have hbr := h.lt
  obtain ⟨w1, hw1, hb1, hg1⟩ := res7 w
  obtain ⟨a, cap, i, e0, e1, e2, e3, e4, fz, hr, hs, hl, hi, hn, hp, ho⟩ := (h.below hb1).cells
  have hll : l.length = p.length - i := by rw [hl]; simp
  obtain ⟨j, hj⟩ : ∃ j : Int, (i : Int) + M = j := ⟨_, rfl⟩
  have hj0 : 0 ≤ j ∧ j ≤ 1000000 := by omega
  have hT := RfN.take hs hl hi hn hp ho m hm j (by omega)
  obtain ⟨w2, hw2⟩ : ∃ w2, w1.setCell ⟨br, 1, none⟩ (.int .i64 j) = w2 := ⟨_, rfl⟩
  rw [hw2] at hT
  have f1 := fz 1
  have hg2 := (hT.2.block _ (heap_lt hg1) (fun e => by omega)).trans hg1
  have HP := Lib.hid (put7 hg2 (.int .i64 k) (.int .i32 0) (.slice none 0 0) (.bool false) (.int .i64 0) (.int .i64 0) (.slice none 0 0))
  have HEND := Lib.hid (fun W (hW : Fr (fun j => j = w.heap.size) w2 W) => RfAns.put (heap_lt hg2) ((Fr.of_below (fun k => k = br ∨ w.heap.size ≤ k) hb1).trans hT.2 (fun _ _ h => Or.inl h)) (ReAt.simple (fun k => w.heap.size < k ∧ k < w2.heap.size) w2 k 0 false) hT.1 hbr hW)
  have HW1 := Lib.hid hw1
  have HW2 := Lib.hid hw2
  have HG2 := Lib.hid hg2
  obtain ⟨hj0, hj1⟩ := hj0
  clear hw1 hb1 hg1 hw2 hg2 hT hl hr hs h fz hll hM hm
  go_enter Try.func35, Try.ntmps35
  go_upto_region 1 with fail
  rw [HW1.out]
  go_upto_region 2 with fail
  rw [HW2.out]
  obtain ⟨a0, a1, a2, a3, a4, a5, a6, z0, z1, z2, z3, z4, z5, z6⟩ := row7 HG2.out
  go_wp2
  refine bodyPost_ret (v := .agg #[.int .i64 k, .int .i32 0, .slice none 0 0, .bool false, .int .i64 0, .int .i64 0, .slice none 0 0]) ?_ rfl ?_
  · rw [results_cell1 rfl]
    go_simp
  · exact RfAns.ok (HEND.out _ HP.out.2)
set_option maxHeartbeats 1000000 in
theorem one_any (br : Nat) (p l : List Int) (n o : Nat) (w : World) (h : RfN w br p l n o) (c : Int) (m : Nat) (M : Int) (hM : M = m) (hm : m ≤ l.length) :
    Calls Try.prog 37 #[.pointer (some ⟨br, 0, none⟩), .int .i32 c, .int .i64 M] w (RfAns w br p o (.ok (Re.rune c, l.drop m, n))) := by
  have hbr := h.lt
  obtain ⟨w1, hw1, hb1, hg1⟩ := res7 w
  obtain ⟨a, cap, i, e0, e1, e2, e3, e4, fz, hr, hs, hl, hi, hn, hp, ho⟩ := (h.below hb1).cells
  have hll : l.length = p.length - i := by rw [hl]; simp
  obtain ⟨j, hj⟩ : ∃ j : Int, (i : Int) + M = j := ⟨_, rfl⟩
  have hj0 : 0 ≤ j ∧ j ≤ 1000000 := by omega
  have hT := RfN.take hs hl hi hn hp ho m hm j (by omega)
  obtain ⟨w2, hw2⟩ : ∃ w2, w1.setCell ⟨br, 1, none⟩ (.int .i64 j) = w2 := ⟨_, rfl⟩
  rw [hw2] at hT
  have f1 := fz 1
  have hg2 := (hT.2.block _ (heap_lt hg1) (fun e => by omega)).trans hg1
  have HP := Lib.hid (put7 hg2 (.int .i64 1) (.int .i32 c) (.slice none 0 0) (.bool false) (.int .i64 0) (.int .i64 0) (.slice none 0 0))
  have HEND := Lib.hid (fun W (hW : Fr (fun j => j = w.heap.size) w2 W) => RfAns.put (heap_lt hg2) ((Fr.of_below (fun k => k = br ∨ w.heap.size ≤ k) hb1).trans hT.2 (fun _ _ h => Or.inl h)) (ReAt.simple (fun k => w.heap.size < k ∧ k < w2.heap.size) w2 1 c false) hT.1 hbr hW)
  have HW1 := Lib.hid hw1
  have HW2 := Lib.hid hw2
  have HG2 := Lib.hid hg2
  obtain ⟨hj0, hj1⟩ := hj0
  clear hw1 hb1 hg1 hw2 hg2 hT hl hr hs h fz hll hM hm
  go_enter Try.func37, Try.ntmps37
  go_upto_region 1 with fail
  rw [HW1.out]
  go_upto_region 2 with fail
  rw [HW2.out]
  obtain ⟨a0, a1, a2, a3, a4, a5, a6, z0, z1, z2, z3, z4, z5, z6⟩ := row7 HG2.out
  go_wp2
  refine bodyPost_ret (v := .agg #[.int .i64 1, .int .i32 c, .slice none 0 0, .bool false, .int .i64 0, .int .i64 0, .slice none 0 0]) ?_ rfl ?_
  · rw [results_cell1 rfl]
    go_simp
  · exact RfAns.ok (HEND.out _ HP.out.2)
/-- a fault's answer -/
def FlAns (w : World) (br : Nat) (p : List Int) (c : Int) (e : Ending) (w' : World) : Prop := e = .returned (.agg #[.int .i64 0, .int .i32 0, .slice none 0 0, .bool false, .int .i64 0, .int .i64 0, .slice none 0 0]) ∧ Hid (RfX w' br p c ∧ Fr (· = br) w w')
set_option maxHeartbeats 1000000 in
theorem fail_any (br : Nat) (p : List Int) (i n o : Int) (w : World) (h : RfS w br p i n o 0) (c : Int) :
    Calls Try.prog 38 #[.pointer (some ⟨br, 0, none⟩), .int .i64 c] w (FlAns w br p c) := by
  have hbr := h.lt
  obtain ⟨w1, hw1, hb1, hg1⟩ := res7 w
  have hs := h.fr (Fr.of_below (fun _ => False) hb1) (fun _ h => h.elim)
  have hs' := hs
  obtain ⟨a, cap, hg, -, -⟩ := hs'
  have e4 : w1.cell? ⟨br, 4, none⟩ = some (.int .i64 0) := by rw [cell_row hg]; rfl
  have f4 := frozen_row hg 4
  have hT := hs.setE c
  obtain ⟨w2, hw2⟩ : ∃ w2, w1.setCell ⟨br, 4, none⟩ (.int .i64 c) = w2 := ⟨_, rfl⟩
  rw [hw2] at hT
  have hg2 := (hT.2.block _ (heap_lt hg1) (fun e => by omega)).trans hg1
  have HP := Lib.hid (put7 hg2 (.int .i64 0) (.int .i32 0) (.slice none 0 0) (.bool false) (.int .i64 0) (.int .i64 0) (.slice none 0 0))
  have HEND := Lib.hid (fun W (hW : Fr (fun j => j = w.heap.size) w2 W) => RfAns.putX ((Fr.of_below (fun k => k = br ∨ w.heap.size ≤ k) hb1).trans hT.2 (fun _ _ h => Or.inl h)) ⟨_, _, _, hT.1⟩ hbr hW)
  have HW1 := Lib.hid hw1
  have HW2 := Lib.hid hw2
  have HG2 := Lib.hid hg2
  clear hw1 hb1 hg1 hw2 hg2 hT hs h hg
  go_enter Try.func38, Try.ntmps38
  go_upto_region 1 with fail
  rw [HW1.out]
  go_upto_region 3 with fail
  rw [HW2.out]
  obtain ⟨a0, a1, a2, a3, a4, a5, a6, z0, z1, z2, z3, z4, z5, z6⟩ := row7 HG2.out
  go_wp2
  refine bodyPost_ret (v := .agg #[.int .i64 0, .int .i32 0, .slice none 0 0, .bool false, .int .i64 0, .int .i64 0, .slice none 0 0]) ?_ rfl ?_
  · rw [results_cell1 rfl]
    go_simp
  · exact ⟨rfl, HEND.out _ HP.out.2⟩
end Go.Proofs.Ytkjiobbkbhmijaa.U
