/-
  The program's reader: repetitions.
-/
import Derived.Test.YtkjiobbkbhmijaaRNum
import Derived.Test.YtkjiobbkbhmijaaRStar
import Derived.Test.YtkjiobbkbhmijaaRTook
namespace Go.Proofs.Ytkjiobbkbhmijaa.U
open Go.RowKit
set_option linter.unusedVariables false
set_option linter.unusedSimpArgs false
set_option maxRecDepth 100000

/-- a part is read, or there is an error -/
def RpAns (F : Nat → Prop) (w : World) (br : Nat) (p : List Int) (n o : Nat) (r : Rs (Re × List Int)) (e : Ending) (w' : World) : Prop :=
  match r with
  | .error c => e = errV c ∧ Fr (· = br) w w'
  | .ok (y, l') => ∃ v, e = .returned (ptV v y) ∧ PtAt (fun k => F k ∨ New w w' k) w' v y ∧ RdS w' br p l' n o ∧ Fr (· = br) w w'
theorem RpAns_ok {F : Nat → Prop} {w w' : World} {br : Nat} {p l' : List Int} {n o : Nat} {y : Re} {v : List Value} {e : Ending} (h : e = .returned (ptV v y)) (k : PtAt (fun k => F k ∨ New w w' k) w' v y ∧ RdS w' br p l' n o ∧ Fr (· = br) w w') : RpAns F w br p n o (.ok (y, l')) e w' := ⟨v, h, k.1, k.2.1, k.2.2⟩
theorem counts_bound {l l' : List Int} {lo hi : Int} (h : counts l = .ok (lo, hi, l')) : (-1 ≤ lo ∧ lo ≤ 100) ∧ (-1 ≤ hi ∧ hi ≤ 100) := by
  unfold counts at h
  split at h
  · cases h
  split at h
  · cases h
  rename_i hb
  split at h
  · simp only [Except.ok.injEq, Prod.mk.injEq] at h
    obtain ⟨rfl, rfl, _⟩ := h
    have h1 := num_bound l 0 (by omega) (by omega)
    have h2 := second_bound (num 0 l) h1.1 h1.2
    simp only [badT, Bool.or_eq_true, decide_eq_true_eq, not_or] at hb
    omega
  · cases h

/-- the part at hand, in its block A -/
def Hd (F : Nat → Prop) (w0 wr : World) (br A : Nat) (p l : List Int) (n o : Nat) (x : Re) : Prop :=
  ∃ v, wr.heap[A]? = some (.cells (v ++ [Value.int .i64 ((min x.sz 401 : Nat) : Int)]).toArray 55 (0, 0)) ∧ PtAt (fun k => (F k ∨ New w0 wr k) ∧ k ≠ A ∧ k ≠ A + 1) wr v x ∧ RdS wr br p l n o ∧ Fr (fun k => k = br ∨ k = A) w0 wr ∧ w0.heap.size ≤ A ∧ A + 1 < wr.heap.size
theorem Hd.fr {F : Nat → Prop} {w0 wr w2 : World} {br A : Nat} {p l l2 : List Int} {n o : Nat} {x : Re} (h : Hd F w0 wr br A p l n o x) (hF : ∀ k, F k → k < w0.heap.size ∧ k ≠ br) (hbr : br < w0.heap.size) (hf : Fr (· = br) wr w2) (hr : RdS w2 br p l2 n o) : Hd F w0 w2 br A p l2 n o x := by
  obtain ⟨v, h1, h2, h3, h4, h5⟩ := h
  have hs := hf.size
  refine ⟨v, (hf.block A (heap_lt h1) (by omega)).trans h1, ?_, hr, h4.trans hf (fun _ _ h => Or.inl h), h5.1, by omega⟩
  refine (h2.frF hf ?_).mono ?_
  · rintro k ⟨h | h, _⟩ e
    · exact (hF k h).2 e
    · have := h.1; omega
  · rintro k ⟨h | h, hk⟩
    · exact ⟨Or.inl h, hk⟩
    · exact ⟨Or.inr ⟨h.1, by have := h.2; omega⟩, hk⟩
/-- its cells, one by one -/
theorem Hd.open {F : Nat → Prop} {w0 wr : World} {br A : Nat} {p l : List Int} {n o : Nat} {x : Re} (h : Hd F w0 wr br A p l n o x) :
    ∃ v k1 r1 sa1 sn1 sc1 nt1 l01 h01 pa1 pn1 pc1, ptV v x = .agg #[.int .i64 k1, .int .i32 r1, .slice sa1 sn1 sc1, .bool nt1, .int .i64 l01, .int .i64 h01, .slice pa1 pn1 pc1, .int .i64 ((min x.sz 401 : Nat) : Int)] ∧ wr.heap[A]? = some (.cells #[.int .i64 k1, .int .i32 r1, .slice sa1 sn1 sc1, .bool nt1, .int .i64 l01, .int .i64 h01, .slice pa1 pn1 pc1, .int .i64 ((min x.sz 401 : Nat) : Int)] 55 (0, 0)) ∧ PtAt (fun k => (F k ∨ New w0 wr k) ∧ k ≠ A ∧ k ≠ A + 1) wr v x := by
  obtain ⟨v, h1, h2, h3, h4, h5⟩ := h
  obtain ⟨k1, r1, sa1, sn1, sc1, nt1, l01, h01, pa1, pn1, pc1, rfl⟩ := h2.rev7
  exact ⟨_, k1, r1, sa1, sn1, sc1, nt1, l01, h01, pa1, pn1, pc1, rfl, h1, h2⟩
/-- another part is put in its place -/
theorem Hd.put {F : Nat → Prop} {w0 w2 w3 W : World} {br A : Nat} {p l : List Int} {n o : Nat} {x y : Re} (h : Hd F w0 w2 br A p l n o x) (hF : ∀ k, F k → k < w0.heap.size ∧ k ≠ br) (hbr : br < w0.heap.size) (hb : Below w2.heap.size w2 w3) {v : List Value}
    (hy : PtAt (fun k => ((F k ∨ New w0 w2 k) ∧ k ≠ A ∧ k ≠ A + 1) ∨ New w2 w3 k) w3 v y) (hW : W.heap[A]? = some (.cells (v ++ [Value.int .i64 ((min y.sz 401 : Nat) : Int)]).toArray 55 (0, 0))) (hf : Fr (fun j => j = A) w3 W) : Hd F w0 W br A p l n o y := by
  obtain ⟨v1, h1, h2, h3, h4, h5⟩ := h
  have hA := heap_lt h1
  have hs := hb.size
  have hs2 := hf.size
  have hs0 := h4.size
  refine ⟨v, hW, ?_, (h3.below hb).fr hf (fun k e => by omega), (h4.trans (Fr.of_below (fun k => k = br ∨ k = A) hb) (fun _ _ h => h)).trans hf (fun _ _ e => Or.inr e), h5.1, by omega⟩
  refine (hy.frF hf ?_).mono ?_
  · rintro k (⟨_, hk⟩ | hk) e
    · exact hk.1 e
    · have := hk.1; omega
  · rintro k (⟨hk | hk, hne⟩ | hk)
    · exact ⟨Or.inl hk, hne⟩
    · exact ⟨Or.inr ⟨hk.1, by have := hk.2; omega⟩, hne⟩
    · exact ⟨Or.inr ⟨by have := hk.1; omega, by have := hk.2; omega⟩, by have := hk.1; omega, by have := hk.1; omega⟩
/-- starred, at the part at hand -/
theorem Hd.star {F : Nat → Prop} {w0 w2 : World} {br A : Nat} {p l : List Int} {n o : Nat} {x : Re} {v : List Value} (h : Hd F w0 w2 br A p l n o x) (hF : ∀ k, F k → k < w0.heap.size ∧ k ≠ br) (hbr : br < w0.heap.size) (hv : PtAt (fun k => (F k ∨ New w0 w2 k) ∧ k ≠ A ∧ k ≠ A + 1) w2 v x) (lo hi : Int) (hlo : -1 ≤ lo ∧ lo ≤ 100) (hhi : -1 ≤ hi ∧ hi ≤ 100) :
    Calls Try.prog 47 #[ptV v x, .int .i64 lo, .int .i64 hi] w2 fun e w3 => ∃ k3 r3 sa3 sn3 sc3 nt3 l3 h3 pa3 pn3 pc3, e = .returned (.agg #[.int .i64 k3, .int .i32 r3, .slice sa3 sn3 sc3, .bool nt3, .int .i64 l3, .int .i64 h3, .slice pa3 pn3 pc3, .int .i64 ((min (x.star lo hi).sz 401 : Nat) : Int)]) ∧
      (w3.heap[A]? = w2.heap[A]? ∧ w3.heap[A + 1]? = w2.heap[A + 1]?) ∧ Hid (Below w2.heap.size w2 w3) ∧
      Hid (∀ W : World, W.heap[A]? = some (.cells #[.int .i64 k3, .int .i32 r3, .slice sa3 sn3 sc3, .bool nt3, .int .i64 l3, .int .i64 h3, .slice pa3 pn3 pc3, .int .i64 ((min (x.star lo hi).sz 401 : Nat) : Int)] 55 (0, 0)) → Fr (fun j => j = A) w3 W → Hd F w0 W br A p l n o (x.star lo hi)) := by
  have hA : A < w2.heap.size := by obtain ⟨v1, h1, _⟩ := h; exact heap_lt h1
  have hs0 : w0.heap.size ≤ w2.heap.size := by obtain ⟨v1, h1, h2, h3, h4, h5⟩ := h; exact h4.size
  have hA1 : A + 1 < w2.heap.size := by obtain ⟨v1, h1, h2, h3, h4, h5, h6⟩ := h; exact h6
  refine (starred_any _ x v lo hi w2 hv (fun k hk => hk.1.elim (fun h => by have := (hF k h).1; omega) (fun h => h.2)) hlo hhi).mono ?_
  rintro e w3 ⟨v3, rfl, H3, hb3⟩
  obtain ⟨k3, r3, sa3, sn3, sc3, nt3, l3, h3, pa3, pn3, pc3, rfl⟩ := H3.out.rev7
  refine ⟨k3, r3, sa3, sn3, sc3, nt3, l3, h3, pa3, pn3, pc3, rfl, ⟨hb3.block A hA, hb3.block _ hA1⟩, hb3, fun W hW hf => h.put hF hbr hb3 H3.out hW hf⟩
set_option maxHeartbeats 1600000 in
theorem repeated_any (F : Nat → Prop) (br : Nat) (p l : List Int) (n o : Nat) (x : Re) (v : List Value) (w : World) (h : RdS w br p l n o) (hx : PtAt F w v x) (hF : ∀ k, F k → k < w.heap.size ∧ k ≠ br) :
    Calls Try.prog 43 #[.pointer (some ⟨br, 0, none⟩), ptV v x] w (RpAns F w br p n o (reps (l.length + 1) x l)) := by
  have hlt := h.lt
  obtain ⟨k, r, sa, sn, sc, nt, l0, h0, pa, pn, pc, hv⟩ := hx.rev7
  obtain ⟨s, hs⟩ : ∃ s : Int, ((min x.sz 401 : Nat) : Int) = s := ⟨_, rfl⟩
  have hpt : ptV v x = .agg #[.int .i64 k, .int .i32 r, .slice sa sn sc, .bool nt, .int .i64 l0, .int .i64 h0, .slice pa pn pc, .int .i64 s] := by unfold ptV; rw [hv, hs]; rfl
  rw [hpt]
  obtain ⟨w1, hw1⟩ : ∃ w1, (w.alloc (.cells #[.int .i64 k, .int .i32 r, .slice sa sn sc, .bool nt, .int .i64 l0, .int .i64 h0, .slice pa pn pc, .int .i64 s] 55)).alloc (.cells #[.int .i64 0, .int .i32 0, .slice none 0 0, .bool false, .int .i64 0, .int .i64 0, .slice none 0 0, .int .i64 0] 55) = w1 := ⟨_, rfl⟩
  have hb1 : Below w.heap.size w w1 := by rw [← hw1]; exact ((Below.refl _ w).alloc (Nat.le_refl _) _).alloc (by simp) _
  have hz1 : w1.heap.size = w.heap.size + 2 := by rw [← hw1]; simp
  have hgA : w1.heap[w.heap.size]? = some (.cells #[.int .i64 k, .int .i32 r, .slice sa sn sc, .bool nt, .int .i64 l0, .int .i64 h0, .slice pa pn pc, .int .i64 s] 55 (0, 0)) := by
    rw [← hw1, ((Below.refl _ (w.alloc _)).alloc (Nat.le_refl _) _).block _ (by simp)]
    exact heap_alloc_new w _
  have hgB : w1.heap[w.heap.size + 1]? = some (.cells #[.int .i64 0, .int .i32 0, .slice none 0 0, .bool false, .int .i64 0, .int .i64 0, .slice none 0 0, .int .i64 0] 55 (0, 0)) := by
    rw [← hw1]
    have := heap_alloc_new (w.alloc (.cells #[.int .i64 k, .int .i32 r, .slice sa sn sc, .bool nt, .int .i64 l0, .int .i64 h0, .slice pa pn pc, .int .i64 s] 55)) (.cells #[.int .i64 0, .int .i32 0, .slice none 0 0, .bool false, .int .i64 0, .int .i64 0, .slice none 0 0, .int .i64 0] 55)
    rw [show (w.alloc (.cells #[.int .i64 k, .int .i32 r, .slice sa sn sc, .bool nt, .int .i64 l0, .int .i64 h0, .slice pa pn pc, .int .i64 s] 55)).heap.size = w.heap.size + 1 by simp] at this
    exact this
  obtain ⟨A, hA⟩ : ∃ A, w.heap.size = A := ⟨_, rfl⟩
  rw [hA] at hgA hgB hlt
  -- B's block is touched by nobody
  have hhd : Hd F w w1 br A p l n o x := by
    refine ⟨v, ?_, ?_, h.below hb1, Fr.of_below _ hb1, by omega, by omega⟩
    · rw [hgA, hv, hs]; rfl
    · exact (hx.frF (Fr.of_below (fun _ => False) hb1) (fun _ _ h => h)).mono (fun j hj => ⟨Or.inl hj, by have := (hF j hj).1; omega, by have := (hF j hj).1; omega⟩)
  have hB : ∀ W, Fr (fun k => k = br ∨ k = A) w1 W → W.heap[A + 1]? = some (.cells #[.int .i64 0, .int .i32 0, .slice none 0 0, .bool false, .int .i64 0, .int .i64 0, .slice none 0 0, .int .i64 0] 55 (0, 0)) := by
    intro W hW
    rw [hW.block (A + 1) (by omega) (by omega)]
    exact hgB
  have HH := Lib.hid hhd
  have HB := Lib.hid hB
  have HW := Lib.hid hw1
  have HF := Lib.hid hF
  have HZ1 := Lib.hid hz1
  have HB1 := Lib.hid hb1
  have HA := Lib.hid hA
  obtain ⟨r0, hr0⟩ : ∃ r0, reps (l.length + 1) x l = r0 := ⟨_, rfl⟩
  rw [hr0]
  have HR0 := Lib.hid hr0
  clear hhd hB hw1 hF hz1 hb1 hgA hgB hpt hs hv hx h hr0
  go_enter Try.func43, Try.ntmps43
  go_wp2_with fail
  go_loopw [] (fun wr => ∃ (x1 : Re) (l1 : List Int) (f : Nat), Hid (Hd F w wr br A p l1 n o x1 ∧ Fr (fun k => k = br ∨ k = A) w1 wr ∧ l1.length < f ∧ reps f x1 l1 = r0)) (fun wr => p.length - atN wr br)
  case atStart =>
    rw [HW.out]
    exact ⟨x, l, l.length + 1, HH.out, Fr.refl _ _, by omega, HR0.out⟩
  case round =>
    obtain ⟨x1, l1, f, HR⟩ := hrel
    obtain ⟨g, hg⟩ : ∃ g, f = g + 1 := ⟨f - 1, by have := HR.out.2.2.1; omega⟩
    subst hg
    have HLG : Hid (l1.length ≤ g) := by show _ ≤ _; have := HR.out.2.2.1; omega
    have HBR : Hid (br < w.heap.size) := by show _ < _; omega
    have HS1 : Hid (A + 1 < wr.heap.size) := by show _ < _; have := HR.out.2.1.size; have := HZ1.out; omega
    have HRD : Hid (RdS wr br p l1 n o) := by obtain ⟨_, _, _, h, _⟩ := HR.out.1; exact h
    have HRE : Hid (reps (g + 1) x1 l1 = r0) := HR.out.2.2.2
    cases hp1 : pre [42] l1 with
    | true =>
      have HREP : Hid (reps g (x1.star 0 (-1)) (l1.drop 1) = r0) := by
        have := HRE.out
        rw [reps, if_pos hp1] at this
        exact this
      have HLD : Hid ((l1.drop 1).length + 1 = l1.length) := by
        have := pre_len hp1
        show _ = _
        simp only [List.length_drop, List.length_singleton] at this ⊢
        omega
      have HP := Lib.hid hp1
      clear hp1
      go_wp2_with (first
        | (go_at_call 33; refine (took1_yes HRD.out 42 HP.out (by decide)).mono ?_; rintro e w2 ⟨rfl, H2⟩; have HD := Lib.hid (HR.out.1.fr HF.out HBR.out H2.out.2 H2.out.1); obtain ⟨v1, k1, r1, sa1, sn1, sc1, nt1, l01, h01, pa1, pn1, pc1, hpt1, hg1, hp1⟩ := HD.out.open; obtain ⟨p0, p1, p2, p3, p4, p5, p6, p7, -, -, -, -, -, -, -, -⟩ := row8 hg1; have HG1 := Lib.hid hg1; have HPT1 := Lib.hid hpt1; have HP1 := Lib.hid hp1; clear hg1 hpt1 hp1)
        | (go_at_call 47; rw [← HPT1.out]; refine (HD.out.star HF.out HBR.out HP1.out 0 (-1) (by omega) (by omega)).mono ?_; rintro e w3 ⟨k3, r3, sa3, sn3, sc3, nt3, l3, h3, pa3, pn3, pc3, rfl, ⟨hga, hgb⟩, HB3, HPUT⟩; have HG3 := Lib.hid (hga.trans HG1.out); clear p0 p1 p2 p3 p4 p5 p6 p7 hga hgb; obtain ⟨q0, q1, q2, q3, q4, q5, q6, q7, z0, z1, z2, z3, z4, z5, z6, z7⟩ := row8 HG3.out))
      go_roundw
      case rel =>
        have hput := put8 HG3.out (.int .i64 k3) (.int .i32 r3) (.slice sa3 sn3 sc3) (.bool nt3) (.int .i64 l3) (.int .i64 h3) (.slice pa3 pn3 pc3) (.int .i64 ((min (x1.star 0 (-1)).sz 401 : Nat) : Int))
        have h3 := H2.out.2.trans (Fr.of_below (· = br) HB3.out) (fun _ _ h => h)
        have h4 := HPUT.out _ hput.1 hput.2
        refine ⟨x1.star 0 (-1), l1.drop 1, g, ?_⟩
        refine Lib.hid ⟨?_, ?_, ?_, ?_⟩
        · with_reducible exact h4
        · with_reducible exact (HR.out.2.1.trans h3 (fun _ _ h => Or.inl h)).trans hput.2 (fun _ _ h => Or.inr h)
        · have := HLD.out
          have := HLG.out
          omega
        · exact HREP.out
      case measure =>
        have hput := put8 HG3.out (.int .i64 k3) (.int .i32 r3) (.slice sa3 sn3 sc3) (.bool nt3) (.int .i64 l3) (.int .i64 h3) (.slice pa3 pn3 pc3) (.int .i64 ((min (x1.star 0 (-1)).sz 401 : Nat) : Int))
        have h4 := HPUT.out _ hput.1 hput.2
        obtain ⟨_, _, _, h5, _⟩ := h4
        obtain ⟨_, _, _, h6, _⟩ := HR.out.1
        have h7 := h5.atN
        have h8 := h6.atN
        have := h6.len
        have := HLD.out
        rw [h7, h8]
        omega
    | false =>
      have HP := Lib.hid hp1
      cases hp2 : pre [92, 123] l1 with
      | true =>
        have HP2 := Lib.hid hp2
        have tok1 : True := trivial
        have HLD : Hid ((l1.drop 2).length + 2 = l1.length) := by
          have := pre_len hp2
          show _ = _
          simp only [List.length_drop, List.length_cons, List.length_nil] at this ⊢
          omega
        cases hc : counts (l1.drop 2) with
        | error c =>
          have HREP : Hid (r0 = .error c) := by
            have := HRE.out
            rw [reps, hp1, hp2, hc] at this
            exact this.symm
          rw [HREP.out]
          clear hp1 hp2
          have HC := Lib.hid hc
          clear hc
          go_wp2_with (first
            | (go_at_call 33; have _t := tok1; refine (took1_no HRD.out 42 HP.out (by decide)).mono ?_; rintro e w2 ⟨rfl, H2⟩; clear tok1 _t)
            | (go_at_call 33; refine (took2_yes (HRD.out.below H2.out) 92 123 HP2.out (by decide) (by decide)).mono ?_; rintro e w3 ⟨rfl, H3⟩)
            | (go_at_call 48; refine (counts_any br p (l1.drop 2) n o _ H3.out.1).mono ?_; rw [HC.out]; intro e w4 h4; obtain ⟨he, hf4⟩ := h4; rw [errV] at he; subst he; have HF4 := Lib.hid hf4; clear hf4))
          obtain ⟨_, _, _, _, h5, _⟩ := HR.out.1
          have hA2 := HA.out
          have hA3 := HW.out
          refine ⟨rfl, rfl, ?_⟩
          have h6 := ((h5.trans (Fr.of_below (fun k => k = br ∨ k = A) H2.out) (fun _ _ h => h)).trans H3.out.2 (fun _ _ h => Or.inl h)).trans HF4.out (fun _ _ h => Or.inl h)
          exact ⟨h6.os, h6.tape, h6.output, h6.size, fun k hk hne => h6.block k hk (fun e => e.elim hne (fun e => by omega))⟩
        | ok q =>
          obtain ⟨lo, hi, l4⟩ := q
          have hbd := counts_bound hc
          have hsx := counts_suffix hc
          have HREP : Hid (reps g (x1.star lo hi) l4 = r0) := by
            have := HRE.out
            rw [reps, hp1, hp2, hc] at this
            exact this
          have HLD4 : Hid (l4.length ≤ (l1.drop 2).length) := hsx.length_le
          have HBD := Lib.hid hbd
          clear hp1 hp2 hbd hsx
          have HC := Lib.hid hc
          clear hc
          go_wp2_with (first
            | (go_at_call 33; have _t := tok1; refine (took1_no HRD.out 42 HP.out (by decide)).mono ?_; rintro e w2 ⟨rfl, H2⟩; clear tok1 _t)
            | (go_at_call 33; refine (took2_yes (HRD.out.below H2.out) 92 123 HP2.out (by decide) (by decide)).mono ?_; rintro e w3 ⟨rfl, H3⟩)
            | (go_at_call 48; refine (counts_any br p (l1.drop 2) n o _ H3.out.1).mono ?_; rw [HC.out]; rintro e w4 ⟨rfl, h4, hf4⟩; have H4 : Hid (RdS w4 br p l4 n o ∧ Fr (· = br) wr w4) := ⟨h4, ((Fr.of_below (· = br) H2.out).trans H3.out.2 (fun _ _ h => h)).trans hf4 (fun _ _ h => h)⟩; clear h4 hf4; have HD := Lib.hid (HR.out.1.fr HF.out HBR.out H4.out.2 H4.out.1); obtain ⟨v1, k1, r1, sa1, sn1, sc1, nt1, l01, h01, pa1, pn1, pc1, hpt1, hg1, hp1⟩ := HD.out.open; obtain ⟨p0, p1, p2, p3, p4, p5, p6, p7, -, -, -, -, -, -, -, -⟩ := row8 hg1; have HG1 := Lib.hid hg1; have HPT1 := Lib.hid hpt1; have HP1 := Lib.hid hp1; clear hg1 hpt1 hp1)
            | (go_at_call 47; rw [← HPT1.out]; refine (HD.out.star HF.out HBR.out HP1.out lo hi HBD.out.1 HBD.out.2).mono ?_; rintro e w3 ⟨k3, r3, sa3, sn3, sc3, nt3, l3, h3, pa3, pn3, pc3, rfl, ⟨hga, hgb⟩, HB3, HPUT⟩; have HG3 := Lib.hid (hga.trans HG1.out); clear p0 p1 p2 p3 p4 p5 p6 p7 hga hgb; obtain ⟨q0, q1, q2, q3, q4, q5, q6, q7, z0, z1, z2, z3, z4, z5, z6, z7⟩ := row8 HG3.out))
          go_roundw
          case rel =>
            have hput := put8 HG3.out (.int .i64 k3) (.int .i32 r3) (.slice sa3 sn3 sc3) (.bool nt3) (.int .i64 l3) (.int .i64 h3) (.slice pa3 pn3 pc3) (.int .i64 ((min (x1.star lo hi).sz 401 : Nat) : Int))
            have h3 := H4.out.2.trans (Fr.of_below (· = br) HB3.out) (fun _ _ h => h)
            have h4 := HPUT.out _ hput.1 hput.2
            refine ⟨x1.star lo hi, l4, g, ?_⟩
            refine Lib.hid ⟨?_, ?_, ?_, ?_⟩
            · with_reducible exact h4
            · with_reducible exact (HR.out.2.1.trans h3 (fun _ _ h => Or.inl h)).trans hput.2 (fun _ _ h => Or.inr h)
            · have := HLD4.out; have := HLD.out
              have := HLG.out
              omega
            · exact HREP.out
          case measure =>
            have hput := put8 HG3.out (.int .i64 k3) (.int .i32 r3) (.slice sa3 sn3 sc3) (.bool nt3) (.int .i64 l3) (.int .i64 h3) (.slice pa3 pn3 pc3) (.int .i64 ((min (x1.star lo hi).sz 401 : Nat) : Int))
            have h4 := HPUT.out _ hput.1 hput.2
            obtain ⟨_, _, _, h5, _⟩ := h4
            obtain ⟨_, _, _, h6, _⟩ := HR.out.1
            have h7 := h5.atN
            have h8 := h6.atN
            have := h6.len
            have := HLD4.out; have := HLD.out
            rw [h7, h8]
            omega
      | false =>
        have HP2 := Lib.hid hp2
        have tok1 : True := trivial
        have HREP : Hid (r0 = .ok (x1, l1)) := by
          have := HRE.out
          rw [reps, hp1, hp2] at this
          exact this.symm
        rw [HREP.out]
        clear hp1 hp2
        go_wp2_with (first
          | (go_at_call 33; have _t := tok1; refine (took1_no HRD.out 42 HP.out (by decide)).mono ?_; rintro e w2 ⟨rfl, H2⟩; clear tok1 _t)
          | (go_at_call 33; refine (took2_no (HRD.out.below H2.out) 92 123 HP2.out (by decide) (by decide)).mono ?_; rintro e w3 ⟨rfl, H3⟩; have H4 : Hid (RdS w3 br p l1 n o ∧ Fr (· = br) wr w3) := ⟨(HRD.out.below H2.out).below H3.out, (Fr.of_below (· = br) H2.out).trans (Fr.of_below _ H3.out) (fun _ _ h => h)⟩; have HD := Lib.hid (HR.out.1.fr HF.out HBR.out H4.out.2 H4.out.1); obtain ⟨v1, k1, r1, sa1, sn1, sc1, nt1, l01, h01, pa1, pn1, pc1, hpt1, hg1, hp1⟩ := HD.out.open; obtain ⟨p0, p1, p2, p3, p4, p5, p6, p7, -, -, -, -, -, -, -, -⟩ := row8 hg1; have HG1 := Lib.hid hg1; have HPT1 := Lib.hid hpt1; have HP1 := Lib.hid hp1; clear hg1 hpt1 hp1; obtain ⟨q0, q1, q2, q3, q4, q5, q6, q7, z0, z1, z2, z3, z4, z5, z6, z7⟩ := row8 ((H4.out.2.block (A + 1) HS1.out (by omega)).trans (HB.out wr HR.out.2.1))))
        have hput := put8 ((H4.out.2.block (A + 1) HS1.out (by omega)).trans (HB.out wr HR.out.2.1)) (.int .i64 k1) (.int .i32 r1) (.slice sa1 sn1 sc1) (.bool nt1) (.int .i64 l01) (.int .i64 h01) (.slice pa1 pn1 pc1) (.int .i64 ((min x1.sz 401 : Nat) : Int))
        have hA2 := HA.out
        have hfin : ∀ W : World, Fr (fun j => j = A + 1) w3 W → PtAt (fun k => F k ∨ New w W k) W v1 x1 ∧ RdS W br p l1 n o ∧ Fr (· = br) w W := by
          intro W hW
          refine ⟨(HP1.out.frF hW (fun k hk e => hk.2.2 e)).mono (fun k hk => hk.1.imp id (fun h => ⟨h.1, by have := h.2; have := hW.size; omega⟩)), H4.out.1.fr hW (fun k e => by omega), ?_⟩
          obtain ⟨_, _, _, _, h5, _⟩ := HR.out.1
          have h7 : Fr (fun k => k = br ∨ k = A ∨ k = A + 1) w w3 := (h5.trans H4.out.2 (fun _ _ h => Or.inl h)).mono (fun k _ h => h.elim Or.inl (fun h => Or.inr (Or.inl h)))
          have h6 : Fr (fun k => k = br ∨ k = A ∨ k = A + 1) w W := h7.trans hW (fun k _ h => Or.inr (Or.inr h))
          exact ⟨h6.os, h6.tape, h6.output, h6.size, fun k hk hne => h6.block k hk (fun e => by omega)⟩
        have HFIN := Lib.hid (hfin _ hput.2)
        clear hfin hput
        refine bodyPost_ret (v := .agg #[.int .i64 k1, .int .i32 r1, .slice sa1 sn1 sc1, .bool nt1, .int .i64 l01, .int .i64 h01, .slice pa1 pn1 pc1, .int .i64 ((min x1.sz 401 : Nat) : Int)]) ?_ rfl ?_
        · rw [results_cell1 rfl]
          go_simp
        · with_reducible exact RpAns_ok (by rw [HPT1.out]) HFIN.out
end Go.Proofs.Ytkjiobbkbhmijaa.U
