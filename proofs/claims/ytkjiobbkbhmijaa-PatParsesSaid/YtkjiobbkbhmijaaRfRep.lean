/-
  The document's reader: a repetition.
-/
import Derived.Test.YtkjiobbkbhmijaaRfNum
namespace Go.Proofs.Ytkjiobbkbhmijaa.U
open Go.RowKit
set_option linter.unusedVariables false
set_option linter.unusedSimpArgs false
set_option maxRecDepth 100000

def rep1 (x : Re) (l : List Int) : Rs (Re × List Int) :=
  if pre [42] l then .ok (x.star 0 (-1), l.drop 1)
  else match counts (l.drop 2) with
    | .error e => .error e
    | .ok (lo, hi, l') => .ok (x.star lo hi, l')
/-- what a repetition leaves -/
def RpA (w : World) (br : Nat) (p : List Int) (n o : Nat) (F : Nat → Prop) (r : Rs (Re × List Int)) (e : Ending) (w' : World) : Prop :=
  match r with
  | .error c => ∃ k4 r4 sa4 sn4 sc4 nt4 l4 h4 pa4 pn4 pc4, e = .returned (.agg #[.int .i64 k4, .int .i32 r4, .slice sa4 sn4 sc4, .bool nt4, .int .i64 l4, .int .i64 h4, .slice pa4 pn4 pc4]) ∧ RfX w' br p c ∧ Fr (· = br) w w'
  | .ok (y, l') => ∃ k4 r4 sa4 sn4 sc4 nt4 l4 h4 pa4 pn4 pc4, e = .returned (.agg #[.int .i64 k4, .int .i32 r4, .slice sa4 sn4 sc4, .bool nt4, .int .i64 l4, .int .i64 h4, .slice pa4 pn4 pc4]) ∧ ReAt (fun k => F k ∨ New w w' k) w' [.int .i64 k4, .int .i32 r4, .slice sa4 sn4 sc4, .bool nt4, .int .i64 l4, .int .i64 h4, .slice pa4 pn4 pc4] y ∧ RfN w' br p l' n o ∧ Fr (· = br) w w'
theorem frW {w w2 W : World} {br : Nat} (hb : Fr (fun k => k = br ∨ w.heap.size ≤ k) w w2) (hf : Fr (fun j => w.heap.size ≤ j) w2 W) : Fr (· = br) w W := by
  have h6 : Fr (fun k => k = br ∨ w.heap.size ≤ k) w W := hb.trans hf (fun k _ e => Or.inr e)
  exact ⟨h6.os, h6.tape, h6.output, h6.size, fun k hk hne => h6.block k hk (fun e => e.elim hne (fun e => by omega))⟩
theorem tail_res {x : Re} {l l1 : List Int} {lo hi : Int} (h42 : pre [42] l = false) (hd : hasD (l.drop 2) = true) (hlo : (num 0 (l.drop 2)).1 = lo) (hs : second (num 0 (l.drop 2)) = (hi, l1)) : rep1 x l = if badT lo hi then .error 11 else if pre [92, 125] l1 then .ok (x.star lo hi, l1.drop 2) else .error 10 := by
  unfold rep1 counts
  rw [h42, hd, hs, hlo]
  simp only [Bool.false_eq_true, if_false]
  rw [if_neg (by simp)]
  cases badT lo hi
  · simp only [Bool.false_eq_true, if_false]
    cases pre [92, 125] l1 <;> rfl
  · simp only [if_true]

set_option maxHeartbeats 4000000 in
theorem repeat_any (br : Nat) (p l : List Int) (n o : Nat) (w : World) (h : RfN w br p l n o) (x : Re) (F : Nat → Prop) (kx rx : Int) (sax : Option Addr) (snx scx : Nat) (ntx : Bool) (lx hx : Int) (pax : Option Addr) (pnx pcx : Nat) (hre : ReAt F w [.int .i64 kx, .int .i32 rx, .slice sax snx scx, .bool ntx, .int .i64 lx, .int .i64 hx, .slice pax pnx pcx] x) (hF : ∀ k, F k → k < w.heap.size) (hFb : ¬ F br) (hl : pre [42] l = true ∨ pre [92, 123] l = true) :
    Calls Try.prog 30 #[.pointer (some ⟨br, 0, none⟩), .agg #[.int .i64 kx, .int .i32 rx, .slice sax snx scx, .bool ntx, .int .i64 lx, .int .i64 hx, .slice pax pnx pcx]] w (RpA w br p n o F (rep1 x l)) := by
  have hbr := h.lt
  obtain ⟨w1, hw1⟩ : ∃ w1, (w.alloc (.cells #[.int .i64 kx, .int .i32 rx, .slice sax snx scx, .bool ntx, .int .i64 lx, .int .i64 hx, .slice pax pnx pcx] 26)).alloc (.cells #[.int .i64 0, .int .i32 0, .slice none 0 0, .bool false, .int .i64 0, .int .i64 0, .slice none 0 0] 26) = w1 := ⟨_, rfl⟩
  have hb1 : Below w.heap.size w w1 := by rw [← hw1]; exact ((Below.refl _ w).alloc (Nat.le_refl _) _).alloc (by simp) _
  have hz1 : w1.heap.size = w.heap.size + 2 := by rw [← hw1]; simp
  have hgA : w1.heap[w.heap.size]? = some (.cells #[.int .i64 kx, .int .i32 rx, .slice sax snx scx, .bool ntx, .int .i64 lx, .int .i64 hx, .slice pax pnx pcx] 26 (0, 0)) := by
    rw [← hw1, (bal _ _).block _ (by simp)]
    exact heap_alloc_new w _
  have hgB : w1.heap[w.heap.size + 1]? = some (.cells #[.int .i64 0, .int .i32 0, .slice none 0 0, .bool false, .int .i64 0, .int .i64 0, .slice none 0 0] 26 (0, 0)) := by
    rw [← hw1]
    have := heap_alloc_new (w.alloc (.cells #[.int .i64 kx, .int .i32 rx, .slice sax snx scx, .bool ntx, .int .i64 lx, .int .i64 hx, .slice pax pnx pcx] 26)) (.cells #[.int .i64 0, .int .i32 0, .slice none 0 0, .bool false, .int .i64 0, .int .i64 0, .slice none 0 0] 26)
    rw [show (w.alloc (.cells #[.int .i64 kx, .int .i32 rx, .slice sax snx scx, .bool ntx, .int .i64 lx, .int .i64 hx, .slice pax pnx pcx] 26)).heap.size = w.heap.size + 1 by simp] at this
    exact this
  have HW1 := Lib.hid hw1
  obtain ⟨X0, hX0⟩ : ∃ X0, w.heap.size = X0 := ⟨_, rfl⟩
  obtain ⟨R, hR⟩ : ∃ R, w.heap.size + 1 = R := ⟨_, rfl⟩
  have HZ : Hid (w1.heap.size = R + 1 ∧ w.heap.size + 1 = R ∧ w.heap.size = X0 ∧ br < X0 ∧ X0 < R) := by refine ⟨?_, hR, hX0, ?_, ?_⟩ <;> omega
  rw [hX0] at hgA
  rw [hR] at hgB
  have hbX : br < X0 := by omega
  obtain ⟨i0, hs, hld, hi, hn, hp, ho⟩ := h.below hb1
  obtain ⟨a, cap, hlook⟩ := hs.look
  obtain ⟨q, hq⟩ : ∃ q, p.length = q := ⟨_, rfl⟩
  rw [hq] at hp hi
  have HQ := Lib.hid hq
  have HLD := Lib.hid hld
  have HNB := Lib.hid hn
  obtain ⟨i, hii⟩ : ∃ i : Int, ((i0 : Nat) : Int) = i := ⟨_, rfl⟩
  rw [hii] at hs hlook
  have HLK : Hid (∀ W, Fr (fun _ => False) w1 W → (∀ k, (fun _ : Nat => False) k → br < k) → (W.cell? ⟨br, 0, none⟩ = some (.slice a q cap) ∧ W.cell? ⟨br, 1, none⟩ = some (.int .i64 i) ∧ W.frozen? ⟨br, 1, none⟩ = false) ∧ RfS W br p i n o 0) := by
    intro W hW hh
    obtain ⟨f0, f1, f2, f3, f4, fz', hr', hs'⟩ := hlook _ W hW hh
    rw [hq] at f0
    exact ⟨⟨f0, f1, fz' 1⟩, hs'⟩
  have HGR : Hid (∀ W, Fr (fun k => k = br ∨ R < k) w1 W → W.heap[R]? = some (.cells #[.int .i64 0, .int .i32 0, .slice none 0 0, .bool false, .int .i64 0, .int .i64 0, .slice none 0 0] 26 (0, 0))) := fun W hW => (hW.block _ (heap_lt hgB) (fun e => by omega)).trans hgB
  have HX0 : Hid (∀ W, Fr (fun k => k = br ∨ R < k) w1 W → W.heap[X0]? = some (.cells #[.int .i64 kx, .int .i32 rx, .slice sax snx scx, .bool ntx, .int .i64 lx, .int .i64 hx, .slice pax pnx pcx] 26 (0, 0))) := fun W hW => (hW.block _ (heap_lt hgA) (fun e => by omega)).trans hgA
  have HRE : Hid (∀ W, Fr (fun k => k = br ∨ w.heap.size ≤ k) w W → ReAt F W [.int .i64 kx, .int .i32 rx, .slice sax snx scx, .bool ntx, .int .i64 lx, .int .i64 hx, .slice pax pnx pcx] x) := fun W hW => ReAt.frF hW (fun k hk e => e.elim (fun e => hFb (e ▸ hk)) (fun e => by have := hF k hk; omega)) x hre
  have HF : Hid (∀ k, F k → k < w.heap.size) := Lib.hid hF
  have HB1 := Lib.hid hb1
  obtain ⟨⟨f0, f1, f1f⟩, -⟩ := HLK.out w1 (Fr.refl _ _) (fun _ h => h.elim)
  obtain ⟨R0, hR0⟩ : ∃ R0, rep1 x l = R0 := ⟨_, rfl⟩
  rw [hR0]
  have hi00 : 0 ≤ i := by omega
  have hi01 : i ≤ 1000000 := by omega
  have hIS := is_42 br p i n o 0 i0 w1 hs (by omega)
  rw [← hld] at hIS
  have hsub : ((i0 : Nat) : Int) = i := hii
  rw [hsub] at hIS
  cases h42 : pre [42] l with
  | true =>
    have hl5 : i0 + 1 ≤ q := by
      have := pre_len h42
      rw [hld] at this
      simp only [List.length_cons, List.length_nil, List.length_drop] at this
      omega
    have HR9 : Hid (R0 = .ok (x.star 0 (-1), p.drop (i0 + 1))) := by show _ = _; rw [← hR0, rep1, h42, hld, List.drop_drop]; rfl
    rw [h42] at hIS
    have HIS := Lib.hid hIS
    obtain ⟨e2, he2⟩ : ∃ e2, i0 + 1 = e2 := ⟨_, rfl⟩
    rw [he2] at HR9
    have k9 : i + 1 = (e2 : Int) := by omega
    have HE2 : Hid (e2 ≤ q ∧ n ≤ e2) := ⟨by omega, by omega⟩
    have HDO : Hid (∀ w6, Below w1.heap.size w1 w6 → ∃ w7 w8, w6.setCell ⟨br, 1, none⟩ (.int .i64 (e2 : Nat)) = w7 ∧ w7.alloc (.cells #[.int .i64 kx, .int .i32 rx, .slice sax snx scx, .bool ntx, .int .i64 lx, .int .i64 hx, .slice pax pnx pcx] 26) = w8 ∧ w6.frozen? ⟨br, 1, none⟩ = false ∧ w6.cell? ⟨br, 1, none⟩ = some (.int .i64 i) ∧ (w7.heap[X0]? = some (.cells #[.int .i64 kx, .int .i32 rx, .slice sax snx scx, .bool ntx, .int .i64 lx, .int .i64 hx, .slice pax pnx pcx] 26 (0, 0))) ∧ w8.heap[R]? = some (.cells #[.int .i64 0, .int .i32 0, .slice none 0 0, .bool false, .int .i64 0, .int .i64 0, .slice none 0 0] 26 (0, 0)) ∧ Hid (R < w7.heap.size) ∧
        Hid (∀ W, Fr (fun j => j = R) w8 W → RpA w br p n o F (.ok (x.star 0 (-1), p.drop e2)) (.returned (.agg #[.int .i64 10, .int .i32 0, .slice none 0 0, .bool false, .int .i64 0, .int .i64 (-1), .slice (some ⟨w7.heap.size, 0, none⟩) 1 1])) W)) := by
      intro w6 h16
      obtain ⟨⟨c0, c1, c1f⟩, hsr⟩ := HLK.out w6 (Fr.of_below (fun _ => False) h16) (fun _ h => h.elim)
      have hT := hsr.setAt (e2 : Nat)
      have h17 : Fr (fun k => k = br ∨ R < k) w1 (w6.setCell ⟨br, 1, none⟩ (.int .i64 (e2 : Nat))) := (Fr.of_below _ h16).trans hT.2 (fun k _ h => Or.inl h)
      have h8 := bal (w6.setCell ⟨br, 1, none⟩ (.int .i64 (e2 : Nat))) (.cells #[.int .i64 kx, .int .i32 rx, .slice sax snx scx, .bool ntx, .int .i64 lx, .int .i64 hx, .slice pax pnx pcx] 26)
      have h18 := h17.trans (Fr.of_below (fun _ => False) h8) (fun _ _ h => h.elim)
      have hz := HZ.out
      have hs7 := h17.size
      refine ⟨_, _, rfl, rfl, c1f, c1, HX0.out _ h17, HGR.out _ h18, by show _ < _; omega, ?_⟩
      intro W hW
      have hfw : Fr (fun k => k = br ∨ w.heap.size ≤ k) w ((w6.setCell ⟨br, 1, none⟩ (.int .i64 (e2 : Nat))).alloc (.cells #[.int .i64 kx, .int .i32 rx, .slice sax snx scx, .bool ntx, .int .i64 lx, .int .i64 hx, .slice pax pnx pcx] 26)) := (Fr.of_below _ HB1.out).trans h18 (fun k _ h => h.elim Or.inl (fun h => Or.inr (by omega)))
      have hre := HRE.out _ hfw
      have hg8 := heap_alloc_new (w6.setCell ⟨br, 1, none⟩ (.int .i64 (e2 : Nat))) (.cells #[.int .i64 kx, .int .i32 rx, .slice sax snx scx, .bool ntx, .int .i64 lx, .int .i64 hx, .slice pax pnx pcx] 26)
      have hst := ReAt.wrap hre (Below.refl _ _) _ _ hg8 10 0 (-1)
      have hszW := hW.size
      have hs8 := heap_lt hg8
      refine ⟨_, _, _, _, _, _, _, _, _, _, _, rfl, ReAt.mono ?_ _ (ReAt.frF hW ?_ _ hst), ?_, ?_⟩
      · rintro k (h | h)
        · exact Or.inl h
        · exact Or.inr ⟨by omega, by omega⟩
      · rintro k (h | h) e
        · have := HF.out k h; omega
        · omega
      · refine RfN.fr (w := w6.setCell ⟨br, 1, none⟩ (.int .i64 (e2 : Nat))) ⟨e2, hT.1, rfl, by have := HQ.out; have := HE2.out; omega, HE2.out.2, by have := HQ.out; omega, ho⟩ ((Fr.of_below (fun j => j = R) h8).trans hW (fun _ _ h => h)) (fun k e => by omega)
      · exact frW hfw (hW.mono (fun k _ e => by omega))
    clear hw1 hb1 hz1 hgA hgB hs hlook hq hld hre hF hFb hl hR0 hIS h42 hii hsub hX0 hR he2 h hi hn hl5
    go_enter Try.func30, Try.ntmps30
    go_upto_region 1 with fail
    rw [HW1.out, HZ.out.2.1, HZ.out.2.2.1]
    go_upto_region 2 with (go_at_call 26; refine HIS.out.mono ?_; rintro e w6 ⟨rfl, hb6⟩; obtain ⟨w7, w8, hw7, hw8, c1f, c1, hx7, hr8, HLT, HFIN⟩ := HDO.out w6 hb6; clear hb6)
    obtain ⟨p0, p1, p2, p3, p4, p5, p6, -⟩ := row7 hx7
    obtain ⟨a0, a1, a2, a3, a4, a5, a6, z0, z1, z2, z3, z4, z5, z6⟩ := row7 hr8
    have HPUT := Lib.hid (put7 hr8 (.int .i64 10) (.int .i32 0) (.slice none 0 0) (.bool false) (.int .i64 0) (.int .i64 (-1)) (.slice (some ⟨w7.heap.size, 0, none⟩) 1 1))
    have HW7 := Lib.hid hw7
    have HW8 := Lib.hid hw8
    clear hw7 hw8 hx7 hr8
    go_upto_region 3 with fail
    rw [HW7.out]
    have hw8 := HW8.out
    go_wp2
    (try rw [HW8.out])
    refine bodyPost_ret (v := .agg #[.int .i64 10, .int .i32 0, .slice none 0 0, .bool false, .int .i64 0, .int .i64 (-1), .slice (some ⟨w7.heap.size, 0, none⟩) 1 1]) ?_ rfl ?_
    · rw [results_cell1 rfl]
      go_simp
    · show RpA w br p n o F R0 _ _
      rw [HR9.out]
      exact HFIN.out _ HPUT.out.2
  | false =>
    have h123 : pre [92, 123] l = true := hl.resolve_left (by rw [h42]; decide)
    have hl5 : i0 + 2 ≤ q := by
      have := pre_len h123
      rw [hld] at this
      simp only [List.length_cons, List.length_nil, List.length_drop] at this
      omega
    have hdr : l.drop 2 = p.drop (i0 + 2) := by rw [hld, List.drop_drop]
    obtain ⟨i2, hi2⟩ : ∃ i2, i0 + 2 = i2 := ⟨_, rfl⟩
    rw [hi2] at hdr hl5
    have k2 : i + 2 = (i2 : Int) := by omega
    have hni2 : n ≤ i2 := by omega
    rw [h42] at hIS
    have HIS := Lib.hid hIS
    have HNUM : Hid (∀ W, Below w1.heap.size w1 W → Calls Try.prog 40 #[.pointer (some ⟨br, 0, none⟩), .int .i64 (i2 : Nat)] W (NmAns W p i2)) := fun W hW => rnumber_any br p i n o 0 i2 W (HLK.out W (Fr.of_below (fun _ => False) hW) (fun _ h => h.elim)).2 (by have := HQ.out; omega) (by have := HQ.out; omega)
    have HNUM2 : Hid (∀ W (k : Nat), k ≤ q → Below w1.heap.size w1 W → Calls Try.prog 40 #[.pointer (some ⟨br, 0, none⟩), .int .i64 (k : Nat)] W (NmAns W p k)) := fun W k hk hW => rnumber_any br p i n o 0 k W (HLK.out W (Fr.of_below (fun _ => False) hW) (fun _ h => h.elim)).2 (by have := HQ.out; omega) (by have := HQ.out; omega)
    have HCOM : Hid (∀ W (k : Nat), k ≤ q → Below w1.heap.size w1 W → Calls Try.prog 26 #[.pointer (some ⟨br, 0, none⟩), .int .i64 (k : Nat), .string ⟨#[44]⟩] W fun e w' => e = .returned (.bool (pre [44] (p.drop k))) ∧ Below W.heap.size W w') := fun W k hk hW => is_44 br p i n o 0 k W (HLK.out W (Fr.of_below (fun _ => False) hW) (fun _ h => h.elim)).2 (by omega)
    have HLKB : Hid (∀ W, Below w1.heap.size w1 W → W.cell? ⟨br, 1, none⟩ = some (.int .i64 i)) := fun W hW => (HLK.out W (Fr.of_below (fun _ => False) hW) (fun _ h => h.elim)).1.2.1
    have hnb := num_bound (p.drop i2) 0 (by omega) (by omega)
    obtain ⟨lo, hlo⟩ : ∃ lo, (num 0 (p.drop i2)).1 = lo := ⟨_, rfl⟩
    have HLO := Lib.hid hlo
    rw [hlo] at hnb
    obtain ⟨hlo0, hlo1⟩ := hnb
    have HNO : Hid (hasD (p.drop i2) = false → R0 = .error 11) := by
      intro hd
      rw [← hR0, rep1, h42, hdr, counts, hd]
      rfl
    have HYES : Hid (∀ (hi : Int) (l1 : List Int), hasD (p.drop i2) = true → second (num 0 (p.drop i2)) = (hi, l1) → R0 = if badT lo hi then .error 11 else if pre [92, 125] l1 then .ok (x.star lo hi, l1.drop 2) else .error 10) := by
      intro hi l1 hd hse
      rw [← hR0]
      exact tail_res h42 (by rw [hdr]; exact hd) (by rw [hdr]; exact hlo) (by rw [hdr]; exact hse)
    have HE2 : Hid (n ≤ i2) := hni2
    clear hw1 hb1 hz1 hgA hgB hs hlook hq hld hre hF hFb hl hR0 hIS h42 h123 hii hsub hX0 hR hi2 h hi hn hdr hlo hni2
    go_enter Try.func30, Try.ntmps30
    go_upto_region 1 with fail
    rw [HW1.out, HZ.out.2.1, HZ.out.2.2.1]
    go_upto_region 5 with (first
      | (go_at_call 26; refine HIS.out.mono ?_; rintro e w6 ⟨rfl, hb6⟩; have f1 := HLKB.out w6 hb6; have HB6 := Lib.hid hb6; clear hb6)
      | (go_at_call 40; refine (HNUM.out w6 HB6.out).mono ?_; rintro e wn ⟨j, rfl, rfl, HJ⟩))
    (try rw [HLO.out])
    have hj0 : i2 ≤ j := HJ.out.2.1
    have hj1 : j ≤ q := by have := HJ.out.2.2.1; have := HQ.out; omega
    cases hd : hasD (p.drop i2) with
    | false =>
      have hj : j = i2 := by
        have := HJ.out.2.2.2
        rw [hd] at this
        have := of_decide_eq_false this.symm
        omega
      subst hj
      have HR9 := Lib.hid (HNO.out hd)
      have HBW := HB6
      clear hd
      have HFL : Hid (Calls Try.prog 38 #[.pointer (some ⟨br, 0, none⟩), .int .i64 11] w6 (FlAns w6 br p 11)) := fail_any br p i n o w6 (HLK.out w6 (Fr.of_below (fun _ => False) HBW.out) (fun _ h => h.elim)).2 11
      go_wp2_with (go_at_call 38; refine HFL.out.mono ?_; rintro e w5 ⟨rfl, H5⟩; have HG5 := Lib.hid (HGR.out w5 ((Fr.of_below (fun k => k = br ∨ R < k) HBW.out).trans H5.out.2 (fun k _ h => Or.inl h))); obtain ⟨a0, a1, a2, a3, a4, a5, a6, z0, z1, z2, z3, z4, z5, z6⟩ := row7 HG5.out)
      have HPUT := Lib.hid (put7 HG5.out (.int .i64 0) (.int .i32 0) (.slice none 0 0) (.bool false) (.int .i64 0) (.int .i64 0) (.slice none 0 0))
      refine bodyPost_ret (v := .agg #[.int .i64 0, .int .i32 0, .slice none 0 0, .bool false, .int .i64 0, .int .i64 0, .slice none 0 0]) ?_ rfl ?_
      · rw [results_cell1 rfl]
        go_simp
      · show RpA w br p n o F R0 _ _
        rw [HR9.out]
        have hfin := (HPUT.out.2.mono (G := fun j => w.heap.size ≤ j) (fun k _ e => by have := HZ.out; omega))
        exact ⟨_, _, _, _, _, _, _, _, _, _, _, rfl, H5.out.1.fr HPUT.out.2 (fun k e => by have := HZ.out; omega), frW (((Fr.of_below (fun k => k = br ∨ w.heap.size ≤ k) (HB1.out.trans (HBW.out.mono HB1.out.size))).trans H5.out.2 (fun k _ h => Or.inl h))) hfin⟩
    | true =>
      have hj : i2 < j := by
        have := HJ.out.2.2.2
        rw [hd] at this
        exact of_decide_eq_true this.symm
      have HNP : Hid ((num 0 (p.drop i2)) = (lo, p.drop j)) := by show _ = _; rw [← HLO.out, ← HJ.out.1]
      have HD := Lib.hid hd
      have gj : ((j : Int) == (i2 : Int)) = false := by simp; omega
      clear hd
      cases hc : pre [44] (p.drop j) with
      | false =>
        obtain ⟨hi, hhi⟩ : ∃ hi, lo = hi := ⟨_, rfl⟩
        have HRES := Lib.hid (HYES.out lo (p.drop j) HD.out (by rw [HNP.out, second, hc]; rfl))
        have HIC := Lib.hid (HCOM.out w6 j hj1 HB6.out)
        rw [hc] at HIC
        clear hc hhi hi
        go_upto_region 14 with (go_at_call 26; refine HIC.out.mono ?_; rintro e w9 ⟨rfl, hb9⟩; have HBW := Lib.hid (HB6.out.trans (hb9.mono HB6.out.size)); clear hb9)
        have HNB5 : Hid (n ≤ j) := by have := HE2.out; show _ ≤ _; omega
        obtain ⟨b, hb⟩ : ∃ b, badT lo lo = b := ⟨_, rfl⟩
        have HB := Lib.hid hb
        clear hb
        go_upto_region 14 with fail
        go_cut [74] from 60 to 74 (fun v wx => v = .bool b ∧ wx = w9)
        case first =>
          go_wp2
          all_goals go_meet
          all_goals (refine ⟨congrArg Value.bool ?_, rfl⟩; rw [← HB.out, Bool.eq_iff_iff]; simp only [badT, Bool.or_eq_true, Bool.and_eq_true, decide_eq_true_eq, Bool.false_eq_true, false_iff, true_iff, iff_true]; omega)
        case rest =>
        obtain ⟨rfl, rfl⟩ := hcut
        cases b with
        | true =>
          have HR9 : Hid (R0 = .error 11) := by show _ = _; rw [HRES.out, HB.out]; rfl
          have HFL : Hid (Calls Try.prog 38 #[.pointer (some ⟨br, 0, none⟩), .int .i64 11] wc (FlAns wc br p 11)) := fail_any br p i n o wc (HLK.out wc (Fr.of_below (fun _ => False) HBW.out) (fun _ h => h.elim)).2 11
          go_wp2_with (go_at_call 38; refine HFL.out.mono ?_; rintro e w5 ⟨rfl, H5⟩; have HG5 := Lib.hid (HGR.out w5 ((Fr.of_below (fun k => k = br ∨ R < k) HBW.out).trans H5.out.2 (fun k _ h => Or.inl h))); obtain ⟨a0, a1, a2, a3, a4, a5, a6, z0, z1, z2, z3, z4, z5, z6⟩ := row7 HG5.out)
          have HPUT := Lib.hid (put7 HG5.out (.int .i64 0) (.int .i32 0) (.slice none 0 0) (.bool false) (.int .i64 0) (.int .i64 0) (.slice none 0 0))
          refine bodyPost_ret (v := .agg #[.int .i64 0, .int .i32 0, .slice none 0 0, .bool false, .int .i64 0, .int .i64 0, .slice none 0 0]) ?_ rfl ?_
          · rw [results_cell1 rfl]
            go_simp
          · show RpA w br p n o F R0 _ _
            rw [HR9.out]
            have hfin := (HPUT.out.2.mono (G := fun j => w.heap.size ≤ j) (fun k _ e => by have := HZ.out; omega))
            exact ⟨_, _, _, _, _, _, _, _, _, _, _, rfl, H5.out.1.fr HPUT.out.2 (fun k e => by have := HZ.out; omega), frW (((Fr.of_below (fun k => k = br ∨ w.heap.size ≤ k) (HB1.out.trans (HBW.out.mono HB1.out.size))).trans H5.out.2 (fun k _ h => Or.inl h))) hfin⟩
        | false =>
          cases hp5 : pre [92, 125] (p.drop j) with
          | false =>
            have HR9 : Hid (R0 = .error 10) := by show _ = _; rw [HRES.out, HB.out, hp5]; rfl
            have HIS := Lib.hid (is_125 br p i n o 0 j wc (HLK.out wc (Fr.of_below (fun _ => False) HBW.out) (fun _ h => h.elim)).2 (by omega))
            rw [hp5] at HIS
            clear hp5
            have HFL : Hid (∀ W, Below wc.heap.size wc W → Calls Try.prog 38 #[.pointer (some ⟨br, 0, none⟩), .int .i64 10] W (FlAns W br p 10)) := fun W hW => fail_any br p i n o W (HLK.out W (Fr.of_below (fun _ => False) (HBW.out.trans (hW.mono HBW.out.size))) (fun _ h => h.elim)).2 10
            go_wp2_with (first
              | (go_at_call 26; refine HIS.out.mono ?_; rintro e w6 ⟨rfl, hb6⟩; have HB6 := Lib.hid hb6; clear hb6)
              | (go_at_call 38; refine (HFL.out _ HB6.out).mono ?_; rintro e w5 ⟨rfl, H5⟩; have HG5 := Lib.hid (HGR.out w5 (((HBW.out.trans (HB6.out.mono HBW.out.size)) |> fun h => (Fr.of_below (fun k => k = br ∨ R < k) h)).trans H5.out.2 (fun k _ h => Or.inl h))); obtain ⟨a0, a1, a2, a3, a4, a5, a6, z0, z1, z2, z3, z4, z5, z6⟩ := row7 HG5.out))
            have HPUT := Lib.hid (put7 HG5.out (.int .i64 0) (.int .i32 0) (.slice none 0 0) (.bool false) (.int .i64 0) (.int .i64 0) (.slice none 0 0))
            refine bodyPost_ret (v := .agg #[.int .i64 0, .int .i32 0, .slice none 0 0, .bool false, .int .i64 0, .int .i64 0, .slice none 0 0]) ?_ rfl ?_
            · rw [results_cell1 rfl]
              go_simp
            · show RpA w br p n o F R0 _ _
              rw [HR9.out]
              have hfin := (HPUT.out.2.mono (G := fun j => w.heap.size ≤ j) (fun k _ e => by have := HZ.out; omega))
              exact ⟨_, _, _, _, _, _, _, _, _, _, _, rfl, H5.out.1.fr HPUT.out.2 (fun k e => by have := HZ.out; omega), frW (((Fr.of_below (fun k => k = br ∨ w.heap.size ≤ k) (HB1.out.trans ((HBW.out.trans (HB6.out.mono HBW.out.size)).mono HB1.out.size))).trans H5.out.2 (fun k _ h => Or.inl h))) hfin⟩
          | true =>
            have hl5 : j + 2 ≤ q := by
              have := pre_len hp5
              simp only [List.length_cons, List.length_nil, List.length_drop] at this
              have := HQ.out
              omega
            have HR9 : Hid (R0 = .ok (x.star lo lo, p.drop (j + 2))) := by show _ = _; rw [HRES.out, HB.out, hp5, List.drop_drop]; rfl
            have HIS := Lib.hid (is_125 br p i n o 0 j wc (HLK.out wc (Fr.of_below (fun _ => False) HBW.out) (fun _ h => h.elim)).2 (by omega))
            rw [hp5] at HIS
            clear hp5
            obtain ⟨e2, he2⟩ : ∃ e2, j + 2 = e2 := ⟨_, rfl⟩
            rw [he2] at HR9
            have k9 : (j : Int) + 2 = (e2 : Int) := by omega
            have HDO : Hid (∀ w6, Below wc.heap.size wc w6 → ∃ w7 w8, w6.setCell ⟨br, 1, none⟩ (.int .i64 (e2 : Nat)) = w7 ∧ w7.alloc (.cells #[.int .i64 kx, .int .i32 rx, .slice sax snx scx, .bool ntx, .int .i64 lx, .int .i64 hx, .slice pax pnx pcx] 26) = w8 ∧ w6.frozen? ⟨br, 1, none⟩ = false ∧ w6.cell? ⟨br, 1, none⟩ = some (.int .i64 i) ∧ (w7.heap[X0]? = some (.cells #[.int .i64 kx, .int .i32 rx, .slice sax snx scx, .bool ntx, .int .i64 lx, .int .i64 hx, .slice pax pnx pcx] 26 (0, 0))) ∧ w8.heap[R]? = some (.cells #[.int .i64 0, .int .i32 0, .slice none 0 0, .bool false, .int .i64 0, .int .i64 0, .slice none 0 0] 26 (0, 0)) ∧ Hid (R < w7.heap.size) ∧
                Hid (∀ W, Fr (fun j => j = R) w8 W → RpA w br p n o F (.ok (x.star lo lo, p.drop e2)) (.returned (.agg #[.int .i64 10, .int .i32 0, .slice none 0 0, .bool false, .int .i64 lo, .int .i64 lo, .slice (some ⟨w7.heap.size, 0, none⟩) 1 1])) W)) := by
              intro w6 h6
              have h16 : Below w1.heap.size w1 w6 := HBW.out.trans (h6.mono HBW.out.size)
              obtain ⟨⟨c0, c1, c1f⟩, hsr⟩ := HLK.out w6 (Fr.of_below (fun _ => False) h16) (fun _ h => h.elim)
              have hT := hsr.setAt (e2 : Nat)
              have h17 : Fr (fun k => k = br ∨ R < k) w1 (w6.setCell ⟨br, 1, none⟩ (.int .i64 (e2 : Nat))) := (Fr.of_below _ h16).trans hT.2 (fun k _ h => Or.inl h)
              have h8 := bal (w6.setCell ⟨br, 1, none⟩ (.int .i64 (e2 : Nat))) (.cells #[.int .i64 kx, .int .i32 rx, .slice sax snx scx, .bool ntx, .int .i64 lx, .int .i64 hx, .slice pax pnx pcx] 26)
              have h18 := h17.trans (Fr.of_below (fun _ => False) h8) (fun _ _ h => h.elim)
              have hz := HZ.out
              have hs7 := h17.size
              refine ⟨_, _, rfl, rfl, c1f, c1, HX0.out _ h17, HGR.out _ h18, by show _ < _; omega, ?_⟩
              intro W hW
              have hfw : Fr (fun k => k = br ∨ w.heap.size ≤ k) w ((w6.setCell ⟨br, 1, none⟩ (.int .i64 (e2 : Nat))).alloc (.cells #[.int .i64 kx, .int .i32 rx, .slice sax snx scx, .bool ntx, .int .i64 lx, .int .i64 hx, .slice pax pnx pcx] 26)) := (Fr.of_below _ HB1.out).trans h18 (fun k _ h => h.elim Or.inl (fun h => Or.inr (by omega)))
              have hre := HRE.out _ hfw
              have hg8 := heap_alloc_new (w6.setCell ⟨br, 1, none⟩ (.int .i64 (e2 : Nat))) (.cells #[.int .i64 kx, .int .i32 rx, .slice sax snx scx, .bool ntx, .int .i64 lx, .int .i64 hx, .slice pax pnx pcx] 26)
              have hst := ReAt.wrap hre (Below.refl _ _) _ _ hg8 10 lo lo
              have hszW := hW.size
              have hs8 := heap_lt hg8
              refine ⟨_, _, _, _, _, _, _, _, _, _, _, rfl, ReAt.mono ?_ _ (ReAt.frF hW ?_ _ hst), ?_, ?_⟩
              · rintro k (h | h)
                · exact Or.inl h
                · exact Or.inr ⟨by omega, by omega⟩
              · rintro k (h | h) e
                · have := HF.out k h; omega
                · omega
              · refine RfN.fr (w := w6.setCell ⟨br, 1, none⟩ (.int .i64 (e2 : Nat))) ⟨e2, hT.1, rfl, by have := HQ.out; omega, by have := HNB5.out; omega, by have := HQ.out; omega, ho⟩ ((Fr.of_below (fun j => j = R) h8).trans hW (fun _ _ h => h)) (fun k e => by omega)
              · exact frW hfw (hW.mono (fun k _ e => by omega))
            go_upto_region 18 with (go_at_call 26; refine HIS.out.mono ?_; rintro e w6 ⟨rfl, hb6⟩; obtain ⟨w7, w8, hw7, hw8, c1f, c1, hx7, hr8, HLT, HFIN⟩ := HDO.out w6 hb6; clear hb6)
            obtain ⟨p0, p1, p2, p3, p4, p5, p6, -⟩ := row7 hx7
            obtain ⟨a0, a1, a2, a3, a4, a5, a6, z0, z1, z2, z3, z4, z5, z6⟩ := row7 hr8
            have HPUT := Lib.hid (put7 hr8 (.int .i64 10) (.int .i32 0) (.slice none 0 0) (.bool false) (.int .i64 lo) (.int .i64 lo) (.slice (some ⟨w7.heap.size, 0, none⟩) 1 1))
            have HW7 := Lib.hid hw7
            have HW8 := Lib.hid hw8
            clear hw7 hw8 hx7 hr8 he2
            go_upto_region 19 with fail
            rw [HW7.out]
            have hw8 := HW8.out
            go_wp2
            (try rw [HW8.out])
            refine bodyPost_ret (v := .agg #[.int .i64 10, .int .i32 0, .slice none 0 0, .bool false, .int .i64 lo, .int .i64 lo, .slice (some ⟨w7.heap.size, 0, none⟩) 1 1]) ?_ rfl ?_
            · rw [results_cell1 rfl]
              go_simp
            · show RpA w br p n o F R0 _ _
              rw [HR9.out]
              exact HFIN.out _ HPUT.out.2
      | true =>
        have hj2 : j + 1 ≤ q := by
          have := pre_len hc
          simp only [List.length_cons, List.length_nil, List.length_drop] at this
          have := HQ.out
          omega
        obtain ⟨j1, hj1e⟩ : ∃ j1, j + 1 = j1 := ⟨_, rfl⟩
        have kj1 : (j : Int) + 1 = (j1 : Int) := by omega
        rw [hj1e] at hj2
        have HSE : Hid (∀ q2, num 0 (p.drop j1) = q2 → second (num 0 (p.drop i2)) = if hasD (p.drop j1) then q2 else (-1, p.drop j1)) := by
          rintro q2 rfl
          rw [HNP.out, second]
          simp only [hc, if_true]
          rw [List.drop_drop, hj1e]
        have HIC := Lib.hid (HCOM.out w6 j hj1 HB6.out)
        rw [hc] at HIC
        clear hc
        have HJ1 := Lib.hid hj1e
        clear hj1e
        go_upto_region 11 with (first
          | (go_at_call 26; refine HIC.out.mono ?_; rintro e w9 ⟨rfl, hb9⟩; have HBW := Lib.hid (HB6.out.trans (hb9.mono HB6.out.size)); clear hb9)
          | (go_at_call 40; refine (HNUM2.out w9 j1 hj2 HBW.out).mono ?_; rintro e wn2 ⟨i5, rfl, rfl, HJ5⟩))
        have h50 : j1 ≤ i5 := HJ5.out.2.1
        have h51 : i5 ≤ q := by have := HJ5.out.2.2.1; have := HQ.out; omega
        have HNB5 : Hid (n ≤ i5) := by have := HE2.out; have := HJ1.out; show _ ≤ _; omega
        cases hd2 : hasD (p.drop j1) with
        | false =>
          have h5 : i5 = j1 := by
            have := HJ5.out.2.2.2
            rw [hd2] at this
            have := of_decide_eq_false this.symm
            omega
          subst h5
          have g5 : ((i5 : Int) == (i5 : Int)) = true := by simp
          obtain ⟨hi, hhi⟩ : ∃ hi : Int, -1 = hi := ⟨_, rfl⟩
          have HRES := Lib.hid (HYES.out (-1) (p.drop i5) HD.out (by rw [HSE.out _ rfl, hd2]; rfl))
          clear hd2 hhi hi
          go_upto_region 14 with fail
          obtain ⟨b, hb⟩ : ∃ b, badT lo (-1) = b := ⟨_, rfl⟩
          have HB := Lib.hid hb
          clear hb
          go_upto_region 14 with fail
          go_cut [74] from 60 to 74 (fun v wx => v = .bool b ∧ wx = w9)
          case first =>
            go_wp2
            all_goals go_meet
            all_goals (refine ⟨congrArg Value.bool ?_, rfl⟩; rw [← HB.out, Bool.eq_iff_iff]; simp only [badT, Bool.or_eq_true, Bool.and_eq_true, decide_eq_true_eq, Bool.false_eq_true, false_iff, true_iff, iff_true]; omega)
          case rest =>
          obtain ⟨rfl, rfl⟩ := hcut
          cases b with
          | true =>
            have HR9 : Hid (R0 = .error 11) := by show _ = _; rw [HRES.out, HB.out]; rfl
            have HFL : Hid (Calls Try.prog 38 #[.pointer (some ⟨br, 0, none⟩), .int .i64 11] wc (FlAns wc br p 11)) := fail_any br p i n o wc (HLK.out wc (Fr.of_below (fun _ => False) HBW.out) (fun _ h => h.elim)).2 11
            go_wp2_with (go_at_call 38; refine HFL.out.mono ?_; rintro e w5 ⟨rfl, H5⟩; have HG5 := Lib.hid (HGR.out w5 ((Fr.of_below (fun k => k = br ∨ R < k) HBW.out).trans H5.out.2 (fun k _ h => Or.inl h))); obtain ⟨a0, a1, a2, a3, a4, a5, a6, z0, z1, z2, z3, z4, z5, z6⟩ := row7 HG5.out)
            have HPUT := Lib.hid (put7 HG5.out (.int .i64 0) (.int .i32 0) (.slice none 0 0) (.bool false) (.int .i64 0) (.int .i64 0) (.slice none 0 0))
            refine bodyPost_ret (v := .agg #[.int .i64 0, .int .i32 0, .slice none 0 0, .bool false, .int .i64 0, .int .i64 0, .slice none 0 0]) ?_ rfl ?_
            · rw [results_cell1 rfl]
              go_simp
            · show RpA w br p n o F R0 _ _
              rw [HR9.out]
              have hfin := (HPUT.out.2.mono (G := fun j => w.heap.size ≤ j) (fun k _ e => by have := HZ.out; omega))
              exact ⟨_, _, _, _, _, _, _, _, _, _, _, rfl, H5.out.1.fr HPUT.out.2 (fun k e => by have := HZ.out; omega), frW (((Fr.of_below (fun k => k = br ∨ w.heap.size ≤ k) (HB1.out.trans (HBW.out.mono HB1.out.size))).trans H5.out.2 (fun k _ h => Or.inl h))) hfin⟩
          | false =>
            cases hp5 : pre [92, 125] (p.drop i5) with
            | false =>
              have HR9 : Hid (R0 = .error 10) := by show _ = _; rw [HRES.out, HB.out, hp5]; rfl
              have HIS := Lib.hid (is_125 br p i n o 0 i5 wc (HLK.out wc (Fr.of_below (fun _ => False) HBW.out) (fun _ h => h.elim)).2 (by omega))
              rw [hp5] at HIS
              clear hp5
              have HFL : Hid (∀ W, Below wc.heap.size wc W → Calls Try.prog 38 #[.pointer (some ⟨br, 0, none⟩), .int .i64 10] W (FlAns W br p 10)) := fun W hW => fail_any br p i n o W (HLK.out W (Fr.of_below (fun _ => False) (HBW.out.trans (hW.mono HBW.out.size))) (fun _ h => h.elim)).2 10
              go_wp2_with (first
                | (go_at_call 26; refine HIS.out.mono ?_; rintro e w6 ⟨rfl, hb6⟩; have HB6 := Lib.hid hb6; clear hb6)
                | (go_at_call 38; refine (HFL.out _ HB6.out).mono ?_; rintro e w5 ⟨rfl, H5⟩; have HG5 := Lib.hid (HGR.out w5 (((HBW.out.trans (HB6.out.mono HBW.out.size)) |> fun h => (Fr.of_below (fun k => k = br ∨ R < k) h)).trans H5.out.2 (fun k _ h => Or.inl h))); obtain ⟨a0, a1, a2, a3, a4, a5, a6, z0, z1, z2, z3, z4, z5, z6⟩ := row7 HG5.out))
              have HPUT := Lib.hid (put7 HG5.out (.int .i64 0) (.int .i32 0) (.slice none 0 0) (.bool false) (.int .i64 0) (.int .i64 0) (.slice none 0 0))
              refine bodyPost_ret (v := .agg #[.int .i64 0, .int .i32 0, .slice none 0 0, .bool false, .int .i64 0, .int .i64 0, .slice none 0 0]) ?_ rfl ?_
              · rw [results_cell1 rfl]
                go_simp
              · show RpA w br p n o F R0 _ _
                rw [HR9.out]
                have hfin := (HPUT.out.2.mono (G := fun j => w.heap.size ≤ j) (fun k _ e => by have := HZ.out; omega))
                exact ⟨_, _, _, _, _, _, _, _, _, _, _, rfl, H5.out.1.fr HPUT.out.2 (fun k e => by have := HZ.out; omega), frW (((Fr.of_below (fun k => k = br ∨ w.heap.size ≤ k) (HB1.out.trans ((HBW.out.trans (HB6.out.mono HBW.out.size)).mono HB1.out.size))).trans H5.out.2 (fun k _ h => Or.inl h))) hfin⟩
            | true =>
              have hl5 : i5 + 2 ≤ q := by
                have := pre_len hp5
                simp only [List.length_cons, List.length_nil, List.length_drop] at this
                have := HQ.out
                omega
              have HR9 : Hid (R0 = .ok (x.star lo (-1), p.drop (i5 + 2))) := by show _ = _; rw [HRES.out, HB.out, hp5, List.drop_drop]; rfl
              have HIS := Lib.hid (is_125 br p i n o 0 i5 wc (HLK.out wc (Fr.of_below (fun _ => False) HBW.out) (fun _ h => h.elim)).2 (by omega))
              rw [hp5] at HIS
              clear hp5
              obtain ⟨e2, he2⟩ : ∃ e2, i5 + 2 = e2 := ⟨_, rfl⟩
              rw [he2] at HR9
              have k9 : (i5 : Int) + 2 = (e2 : Int) := by omega
              have HDO : Hid (∀ w6, Below wc.heap.size wc w6 → ∃ w7 w8, w6.setCell ⟨br, 1, none⟩ (.int .i64 (e2 : Nat)) = w7 ∧ w7.alloc (.cells #[.int .i64 kx, .int .i32 rx, .slice sax snx scx, .bool ntx, .int .i64 lx, .int .i64 hx, .slice pax pnx pcx] 26) = w8 ∧ w6.frozen? ⟨br, 1, none⟩ = false ∧ w6.cell? ⟨br, 1, none⟩ = some (.int .i64 i) ∧ (w7.heap[X0]? = some (.cells #[.int .i64 kx, .int .i32 rx, .slice sax snx scx, .bool ntx, .int .i64 lx, .int .i64 hx, .slice pax pnx pcx] 26 (0, 0))) ∧ w8.heap[R]? = some (.cells #[.int .i64 0, .int .i32 0, .slice none 0 0, .bool false, .int .i64 0, .int .i64 0, .slice none 0 0] 26 (0, 0)) ∧ Hid (R < w7.heap.size) ∧
                  Hid (∀ W, Fr (fun j => j = R) w8 W → RpA w br p n o F (.ok (x.star lo (-1), p.drop e2)) (.returned (.agg #[.int .i64 10, .int .i32 0, .slice none 0 0, .bool false, .int .i64 lo, .int .i64 (-1), .slice (some ⟨w7.heap.size, 0, none⟩) 1 1])) W)) := by
                intro w6 h6
                have h16 : Below w1.heap.size w1 w6 := HBW.out.trans (h6.mono HBW.out.size)
                obtain ⟨⟨c0, c1, c1f⟩, hsr⟩ := HLK.out w6 (Fr.of_below (fun _ => False) h16) (fun _ h => h.elim)
                have hT := hsr.setAt (e2 : Nat)
                have h17 : Fr (fun k => k = br ∨ R < k) w1 (w6.setCell ⟨br, 1, none⟩ (.int .i64 (e2 : Nat))) := (Fr.of_below _ h16).trans hT.2 (fun k _ h => Or.inl h)
                have h8 := bal (w6.setCell ⟨br, 1, none⟩ (.int .i64 (e2 : Nat))) (.cells #[.int .i64 kx, .int .i32 rx, .slice sax snx scx, .bool ntx, .int .i64 lx, .int .i64 hx, .slice pax pnx pcx] 26)
                have h18 := h17.trans (Fr.of_below (fun _ => False) h8) (fun _ _ h => h.elim)
                have hz := HZ.out
                have hs7 := h17.size
                refine ⟨_, _, rfl, rfl, c1f, c1, HX0.out _ h17, HGR.out _ h18, by show _ < _; omega, ?_⟩
                intro W hW
                have hfw : Fr (fun k => k = br ∨ w.heap.size ≤ k) w ((w6.setCell ⟨br, 1, none⟩ (.int .i64 (e2 : Nat))).alloc (.cells #[.int .i64 kx, .int .i32 rx, .slice sax snx scx, .bool ntx, .int .i64 lx, .int .i64 hx, .slice pax pnx pcx] 26)) := (Fr.of_below _ HB1.out).trans h18 (fun k _ h => h.elim Or.inl (fun h => Or.inr (by omega)))
                have hre := HRE.out _ hfw
                have hg8 := heap_alloc_new (w6.setCell ⟨br, 1, none⟩ (.int .i64 (e2 : Nat))) (.cells #[.int .i64 kx, .int .i32 rx, .slice sax snx scx, .bool ntx, .int .i64 lx, .int .i64 hx, .slice pax pnx pcx] 26)
                have hst := ReAt.wrap hre (Below.refl _ _) _ _ hg8 10 lo (-1)
                have hszW := hW.size
                have hs8 := heap_lt hg8
                refine ⟨_, _, _, _, _, _, _, _, _, _, _, rfl, ReAt.mono ?_ _ (ReAt.frF hW ?_ _ hst), ?_, ?_⟩
                · rintro k (h | h)
                  · exact Or.inl h
                  · exact Or.inr ⟨by omega, by omega⟩
                · rintro k (h | h) e
                  · have := HF.out k h; omega
                  · omega
                · refine RfN.fr (w := w6.setCell ⟨br, 1, none⟩ (.int .i64 (e2 : Nat))) ⟨e2, hT.1, rfl, by have := HQ.out; omega, by have := HNB5.out; omega, by have := HQ.out; omega, ho⟩ ((Fr.of_below (fun j => j = R) h8).trans hW (fun _ _ h => h)) (fun k e => by omega)
                · exact frW hfw (hW.mono (fun k _ e => by omega))
              go_upto_region 18 with (go_at_call 26; refine HIS.out.mono ?_; rintro e w6 ⟨rfl, hb6⟩; obtain ⟨w7, w8, hw7, hw8, c1f, c1, hx7, hr8, HLT, HFIN⟩ := HDO.out w6 hb6; clear hb6)
              obtain ⟨p0, p1, p2, p3, p4, p5, p6, -⟩ := row7 hx7
              obtain ⟨a0, a1, a2, a3, a4, a5, a6, z0, z1, z2, z3, z4, z5, z6⟩ := row7 hr8
              have HPUT := Lib.hid (put7 hr8 (.int .i64 10) (.int .i32 0) (.slice none 0 0) (.bool false) (.int .i64 lo) (.int .i64 (-1)) (.slice (some ⟨w7.heap.size, 0, none⟩) 1 1))
              have HW7 := Lib.hid hw7
              have HW8 := Lib.hid hw8
              clear hw7 hw8 hx7 hr8 he2
              go_upto_region 19 with fail
              rw [HW7.out]
              have hw8 := HW8.out
              go_wp2
              (try rw [HW8.out])
              refine bodyPost_ret (v := .agg #[.int .i64 10, .int .i32 0, .slice none 0 0, .bool false, .int .i64 lo, .int .i64 (-1), .slice (some ⟨w7.heap.size, 0, none⟩) 1 1]) ?_ rfl ?_
              · rw [results_cell1 rfl]
                go_simp
              · show RpA w br p n o F R0 _ _
                rw [HR9.out]
                exact HFIN.out _ HPUT.out.2
        | true =>
          have h5 : j1 < i5 := by
            have := HJ5.out.2.2.2
            rw [hd2] at this
            exact of_decide_eq_true this.symm
          have g5 : ((i5 : Int) == (j1 : Int)) = false := by simp; omega
          have hnb2 := num_bound (p.drop j1) 0 (by omega) (by omega)
          obtain ⟨hi, hhi⟩ : ∃ hi, (num 0 (p.drop j1)).1 = hi := ⟨_, rfl⟩
          have HRES := Lib.hid (HYES.out hi (p.drop i5) HD.out (by rw [HSE.out _ rfl, hd2, if_pos rfl, ← hhi, ← HJ5.out.1]))
          rw [hhi] at hnb2
          obtain ⟨hhi0, hhi1⟩ := hnb2
          have HHI := Lib.hid hhi
          clear hd2 hhi
          (try rw [HHI.out])
          go_upto_region 14 with fail
          obtain ⟨b, hb⟩ : ∃ b, badT lo hi = b := ⟨_, rfl⟩
          have HB := Lib.hid hb
          clear hb
          go_upto_region 14 with fail
          go_cut [74] from 60 to 74 (fun v wx => v = .bool b ∧ wx = w9)
          case first =>
            go_wp2
            all_goals go_meet
            all_goals (refine ⟨congrArg Value.bool ?_, rfl⟩; rw [← HB.out, Bool.eq_iff_iff]; simp only [badT, Bool.or_eq_true, Bool.and_eq_true, decide_eq_true_eq, Bool.false_eq_true, false_iff, true_iff, iff_true]; omega)
          case rest =>
          obtain ⟨rfl, rfl⟩ := hcut
          cases b with
          | true =>
            have HR9 : Hid (R0 = .error 11) := by show _ = _; rw [HRES.out, HB.out]; rfl
            have HFL : Hid (Calls Try.prog 38 #[.pointer (some ⟨br, 0, none⟩), .int .i64 11] wc (FlAns wc br p 11)) := fail_any br p i n o wc (HLK.out wc (Fr.of_below (fun _ => False) HBW.out) (fun _ h => h.elim)).2 11
            go_wp2_with (go_at_call 38; refine HFL.out.mono ?_; rintro e w5 ⟨rfl, H5⟩; have HG5 := Lib.hid (HGR.out w5 ((Fr.of_below (fun k => k = br ∨ R < k) HBW.out).trans H5.out.2 (fun k _ h => Or.inl h))); obtain ⟨a0, a1, a2, a3, a4, a5, a6, z0, z1, z2, z3, z4, z5, z6⟩ := row7 HG5.out)
            have HPUT := Lib.hid (put7 HG5.out (.int .i64 0) (.int .i32 0) (.slice none 0 0) (.bool false) (.int .i64 0) (.int .i64 0) (.slice none 0 0))
            refine bodyPost_ret (v := .agg #[.int .i64 0, .int .i32 0, .slice none 0 0, .bool false, .int .i64 0, .int .i64 0, .slice none 0 0]) ?_ rfl ?_
            · rw [results_cell1 rfl]
              go_simp
            · show RpA w br p n o F R0 _ _
              rw [HR9.out]
              have hfin := (HPUT.out.2.mono (G := fun j => w.heap.size ≤ j) (fun k _ e => by have := HZ.out; omega))
              exact ⟨_, _, _, _, _, _, _, _, _, _, _, rfl, H5.out.1.fr HPUT.out.2 (fun k e => by have := HZ.out; omega), frW (((Fr.of_below (fun k => k = br ∨ w.heap.size ≤ k) (HB1.out.trans (HBW.out.mono HB1.out.size))).trans H5.out.2 (fun k _ h => Or.inl h))) hfin⟩
          | false =>
            cases hp5 : pre [92, 125] (p.drop i5) with
            | false =>
              have HR9 : Hid (R0 = .error 10) := by show _ = _; rw [HRES.out, HB.out, hp5]; rfl
              have HIS := Lib.hid (is_125 br p i n o 0 i5 wc (HLK.out wc (Fr.of_below (fun _ => False) HBW.out) (fun _ h => h.elim)).2 (by omega))
              rw [hp5] at HIS
              clear hp5
              have HFL : Hid (∀ W, Below wc.heap.size wc W → Calls Try.prog 38 #[.pointer (some ⟨br, 0, none⟩), .int .i64 10] W (FlAns W br p 10)) := fun W hW => fail_any br p i n o W (HLK.out W (Fr.of_below (fun _ => False) (HBW.out.trans (hW.mono HBW.out.size))) (fun _ h => h.elim)).2 10
              go_wp2_with (first
                | (go_at_call 26; refine HIS.out.mono ?_; rintro e w6 ⟨rfl, hb6⟩; have HB6 := Lib.hid hb6; clear hb6)
                | (go_at_call 38; refine (HFL.out _ HB6.out).mono ?_; rintro e w5 ⟨rfl, H5⟩; have HG5 := Lib.hid (HGR.out w5 (((HBW.out.trans (HB6.out.mono HBW.out.size)) |> fun h => (Fr.of_below (fun k => k = br ∨ R < k) h)).trans H5.out.2 (fun k _ h => Or.inl h))); obtain ⟨a0, a1, a2, a3, a4, a5, a6, z0, z1, z2, z3, z4, z5, z6⟩ := row7 HG5.out))
              have HPUT := Lib.hid (put7 HG5.out (.int .i64 0) (.int .i32 0) (.slice none 0 0) (.bool false) (.int .i64 0) (.int .i64 0) (.slice none 0 0))
              refine bodyPost_ret (v := .agg #[.int .i64 0, .int .i32 0, .slice none 0 0, .bool false, .int .i64 0, .int .i64 0, .slice none 0 0]) ?_ rfl ?_
              · rw [results_cell1 rfl]
                go_simp
              · show RpA w br p n o F R0 _ _
                rw [HR9.out]
                have hfin := (HPUT.out.2.mono (G := fun j => w.heap.size ≤ j) (fun k _ e => by have := HZ.out; omega))
                exact ⟨_, _, _, _, _, _, _, _, _, _, _, rfl, H5.out.1.fr HPUT.out.2 (fun k e => by have := HZ.out; omega), frW (((Fr.of_below (fun k => k = br ∨ w.heap.size ≤ k) (HB1.out.trans ((HBW.out.trans (HB6.out.mono HBW.out.size)).mono HB1.out.size))).trans H5.out.2 (fun k _ h => Or.inl h))) hfin⟩
            | true =>
              have hl5 : i5 + 2 ≤ q := by
                have := pre_len hp5
                simp only [List.length_cons, List.length_nil, List.length_drop] at this
                have := HQ.out
                omega
              have HR9 : Hid (R0 = .ok (x.star lo hi, p.drop (i5 + 2))) := by show _ = _; rw [HRES.out, HB.out, hp5, List.drop_drop]; rfl
              have HIS := Lib.hid (is_125 br p i n o 0 i5 wc (HLK.out wc (Fr.of_below (fun _ => False) HBW.out) (fun _ h => h.elim)).2 (by omega))
              rw [hp5] at HIS
              clear hp5
              obtain ⟨e2, he2⟩ : ∃ e2, i5 + 2 = e2 := ⟨_, rfl⟩
              rw [he2] at HR9
              have k9 : (i5 : Int) + 2 = (e2 : Int) := by omega
              have HDO : Hid (∀ w6, Below wc.heap.size wc w6 → ∃ w7 w8, w6.setCell ⟨br, 1, none⟩ (.int .i64 (e2 : Nat)) = w7 ∧ w7.alloc (.cells #[.int .i64 kx, .int .i32 rx, .slice sax snx scx, .bool ntx, .int .i64 lx, .int .i64 hx, .slice pax pnx pcx] 26) = w8 ∧ w6.frozen? ⟨br, 1, none⟩ = false ∧ w6.cell? ⟨br, 1, none⟩ = some (.int .i64 i) ∧ (w7.heap[X0]? = some (.cells #[.int .i64 kx, .int .i32 rx, .slice sax snx scx, .bool ntx, .int .i64 lx, .int .i64 hx, .slice pax pnx pcx] 26 (0, 0))) ∧ w8.heap[R]? = some (.cells #[.int .i64 0, .int .i32 0, .slice none 0 0, .bool false, .int .i64 0, .int .i64 0, .slice none 0 0] 26 (0, 0)) ∧ Hid (R < w7.heap.size) ∧
                  Hid (∀ W, Fr (fun j => j = R) w8 W → RpA w br p n o F (.ok (x.star lo hi, p.drop e2)) (.returned (.agg #[.int .i64 10, .int .i32 0, .slice none 0 0, .bool false, .int .i64 lo, .int .i64 hi, .slice (some ⟨w7.heap.size, 0, none⟩) 1 1])) W)) := by
                intro w6 h6
                have h16 : Below w1.heap.size w1 w6 := HBW.out.trans (h6.mono HBW.out.size)
                obtain ⟨⟨c0, c1, c1f⟩, hsr⟩ := HLK.out w6 (Fr.of_below (fun _ => False) h16) (fun _ h => h.elim)
                have hT := hsr.setAt (e2 : Nat)
                have h17 : Fr (fun k => k = br ∨ R < k) w1 (w6.setCell ⟨br, 1, none⟩ (.int .i64 (e2 : Nat))) := (Fr.of_below _ h16).trans hT.2 (fun k _ h => Or.inl h)
                have h8 := bal (w6.setCell ⟨br, 1, none⟩ (.int .i64 (e2 : Nat))) (.cells #[.int .i64 kx, .int .i32 rx, .slice sax snx scx, .bool ntx, .int .i64 lx, .int .i64 hx, .slice pax pnx pcx] 26)
                have h18 := h17.trans (Fr.of_below (fun _ => False) h8) (fun _ _ h => h.elim)
                have hz := HZ.out
                have hs7 := h17.size
                refine ⟨_, _, rfl, rfl, c1f, c1, HX0.out _ h17, HGR.out _ h18, by show _ < _; omega, ?_⟩
                intro W hW
                have hfw : Fr (fun k => k = br ∨ w.heap.size ≤ k) w ((w6.setCell ⟨br, 1, none⟩ (.int .i64 (e2 : Nat))).alloc (.cells #[.int .i64 kx, .int .i32 rx, .slice sax snx scx, .bool ntx, .int .i64 lx, .int .i64 hx, .slice pax pnx pcx] 26)) := (Fr.of_below _ HB1.out).trans h18 (fun k _ h => h.elim Or.inl (fun h => Or.inr (by omega)))
                have hre := HRE.out _ hfw
                have hg8 := heap_alloc_new (w6.setCell ⟨br, 1, none⟩ (.int .i64 (e2 : Nat))) (.cells #[.int .i64 kx, .int .i32 rx, .slice sax snx scx, .bool ntx, .int .i64 lx, .int .i64 hx, .slice pax pnx pcx] 26)
                have hst := ReAt.wrap hre (Below.refl _ _) _ _ hg8 10 lo hi
                have hszW := hW.size
                have hs8 := heap_lt hg8
                refine ⟨_, _, _, _, _, _, _, _, _, _, _, rfl, ReAt.mono ?_ _ (ReAt.frF hW ?_ _ hst), ?_, ?_⟩
                · rintro k (h | h)
                  · exact Or.inl h
                  · exact Or.inr ⟨by omega, by omega⟩
                · rintro k (h | h) e
                  · have := HF.out k h; omega
                  · omega
                · refine RfN.fr (w := w6.setCell ⟨br, 1, none⟩ (.int .i64 (e2 : Nat))) ⟨e2, hT.1, rfl, by have := HQ.out; omega, by have := HNB5.out; omega, by have := HQ.out; omega, ho⟩ ((Fr.of_below (fun j => j = R) h8).trans hW (fun _ _ h => h)) (fun k e => by omega)
                · exact frW hfw (hW.mono (fun k _ e => by omega))
              go_upto_region 18 with (go_at_call 26; refine HIS.out.mono ?_; rintro e w6 ⟨rfl, hb6⟩; obtain ⟨w7, w8, hw7, hw8, c1f, c1, hx7, hr8, HLT, HFIN⟩ := HDO.out w6 hb6; clear hb6)
              obtain ⟨p0, p1, p2, p3, p4, p5, p6, -⟩ := row7 hx7
              obtain ⟨a0, a1, a2, a3, a4, a5, a6, z0, z1, z2, z3, z4, z5, z6⟩ := row7 hr8
              have HPUT := Lib.hid (put7 hr8 (.int .i64 10) (.int .i32 0) (.slice none 0 0) (.bool false) (.int .i64 lo) (.int .i64 hi) (.slice (some ⟨w7.heap.size, 0, none⟩) 1 1))
              have HW7 := Lib.hid hw7
              have HW8 := Lib.hid hw8
              clear hw7 hw8 hx7 hr8 he2
              go_upto_region 19 with fail
              rw [HW7.out]
              have hw8 := HW8.out
              go_wp2
              (try rw [HW8.out])
              refine bodyPost_ret (v := .agg #[.int .i64 10, .int .i32 0, .slice none 0 0, .bool false, .int .i64 lo, .int .i64 hi, .slice (some ⟨w7.heap.size, 0, none⟩) 1 1]) ?_ rfl ?_
              · rw [results_cell1 rfl]
                go_simp
              · show RpA w br p n o F R0 _ _
                rw [HR9.out]
                exact HFIN.out _ HPUT.out.2
end Go.Proofs.Ytkjiobbkbhmijaa.U
