/-
  The document's reader: a group.
-/
import Derived.Test.YtkjiobbkbhmijaaRfRep
namespace Go.Proofs.Ytkjiobbkbhmijaa.U
open Go.RowKit
set_option linter.unusedVariables false
set_option linter.unusedSimpArgs false
set_option maxRecDepth 100000

/-- alternatives, as the reading of a group calls them -/
def AltsD (rec : Rec) (o : Nat) : Prop := ∀ (br : Nat) (p l : List Int) (n : Nat) (w : World), p.length ≤ 99999 → RfN w br p l n o → Calls Try.prog 20 #[.pointer (some ⟨br, 0, none⟩)] w (RfAns w br p o (rec l n o))
/-- where alternatives end -/
def RecEnd (rec : Rec) : Prop := ∀ l n o x l' n', rec l n o = .ok (x, l', n') → l' = [] ∨ pre [92, 41] l' = true
theorem pcsR_end (rec : Rec) (o : Nat) : ∀ (f : Nat) (acc : List Re) (l : List Int) (n : Nat) {xs : List Re} {l' : List Int} {n' : Nat}, pcsR rec o f acc l n = .ok (xs, l', n') → ended l' = true
  | 0, acc, l, n, xs, l', n', h => by cases h
  | f + 1, acc, l, n, xs, l', n', h => by
    unfold pcsR at h
    split at h
    · rename_i he
      simp only [Except.ok.injEq, Prod.mk.injEq] at h
      rw [← h.2.1]; exact he
    split at h
    · cases h
    · split at h
      · cases h
      · exact pcsR_end rec o f _ _ _ h
theorem altR_end {rec : Rec} {l l' : List Int} {n n' o : Nat} {x : Re} (h : altR rec l n o = .ok (x, l', n')) : ended l' = true := by
  unfold altR pcs0 at h
  split at h
  · cases h
  · rename_i xs l1 n1 h1
    simp only [Except.ok.injEq, Prod.mk.injEq] at h
    rw [← h.2.1]
    split at h1
    · exact pcsR_end rec o _ _ _ _ h1
    · exact pcsR_end rec o _ _ _ _ h1
theorem altsL_end {rec : Rec} (o : Nat) : ∀ (f : Nat) (acc : List Re) (l : List Int) (n : Nat) {xs : List Re} {l' : List Int} {n' : Nat}, altsL rec o f acc l n = .ok (xs, l', n') → ended l = true → l' = [] ∨ pre [92, 41] l' = true
  | 0, acc, l, n, xs, l', n', h, he => by cases h
  | f + 1, acc, l, n, xs, l', n', h, he => by
    unfold altsL at h
    split at h
    · split at h
      · cases h
      · rename_i x l1 n1 h2
        exact altsL_end o f _ _ _ h (altR_end h2)
    · rename_i hp
      simp only [Except.ok.injEq, Prod.mk.injEq] at h
      rw [← h.2.1]
      unfold ended at he
      simp only [Bool.or_eq_true] at he
      rcases he with (he | he) | he
      · exact Or.inl (List.isEmpty_iff.1 he)
      · exact absurd he hp
      · exact Or.inr he
theorem altsR_end (rec : Rec) : RecEnd (altsR rec) := by
  intro l n o x l' n' h
  unfold altsR alts0 at h
  split at h
  · cases h
  · rename_i xs l1 n1 h1
    simp only [Except.ok.injEq, Prod.mk.injEq] at h
    rw [← h.2.1]
    split at h1
    · cases h1
    · rename_i x2 l2 n2 h2
      exact altsL_end o _ _ _ _ h1 (altR_end h2)
theorem alts_end : ∀ d, RecEnd (alts d)
  | 0 => fun l n o x l' n' h => by cases h
  | d + 1 => altsR_end (alts d)
theorem grpR_of (rec : Rec) (l : List Int) (n o : Nat) (ho : ¬ o = 16) : grpR rec l n o = match rec l (n + 1) (o + 1) with
    | .error e => .error e
    | .ok (x, l', n') => if pre [92, 41] l' then .ok (x.grp (n + 1), l'.drop 2, n') else .error 10 := by
  unfold grpR
  rw [if_neg ho]
  rfl
set_option maxHeartbeats 4000000 in
theorem rgroup_any (rec : Rec) (br : Nat) (p l : List Int) (n o : Nat) (w : World) (hrec : o < 16 → AltsD rec (o + 1)) (hnz : o ≠ 16 → RecNZ rec (o + 1)) (hend : RecEnd rec) (hp5 : p.length ≤ 99999) (h : RfN w br p (92 :: 40 :: l) n o) :
    Calls Try.prog 39 #[.pointer (some ⟨br, 0, none⟩)] w (RfAns w br p o (grpR rec l n o)) := by
  have hbr := h.lt
  obtain ⟨w1, hw1, hb1, hg1⟩ := res7 w
  obtain ⟨i, hs, hl, hi, hn, hp, ho⟩ := h.below hb1
  have hl2 : l = p.drop (i + 2) ∧ i + 2 ≤ p.length := by
    have h1 := congrArg (List.drop 2) hl
    rw [List.drop_drop] at h1
    have h2 := congrArg List.length hl
    simp only [List.length_cons, List.length_drop] at h2
    exact ⟨h1, by omega⟩
  obtain ⟨hl2, hi2⟩ := hl2
  obtain ⟨o1, ho1⟩ : ∃ o1, o + 1 = o1 := ⟨_, rfl⟩
  obtain ⟨n1, hn1⟩ : ∃ n1, n + 1 = n1 := ⟨_, rfl⟩
  obtain ⟨i2, hi2e⟩ : ∃ i2, i + 2 = i2 := ⟨_, rfl⟩
  rw [hi2e] at hl2 hi2
  have k1 : (o : Int) + 1 = (o1 : Int) := by omega
  have k2 : (n : Int) + 1 = (n1 : Int) := by omega
  have k3 : (i : Int) + 2 = (i2 : Int) := by omega
  have kb1 : o1 ≤ 17 := by omega
  have kb2 : n1 ≤ 1000001 := by omega
  have kb3 : i2 ≤ 1000000 := by omega
  have hpl : p.length ≤ 1000000 := hp
  have hT1 := hs.setO (o1 : Nat)
  obtain ⟨w2, hw2⟩ : ∃ w2, w1.setCell ⟨br, 3, none⟩ (.int .i64 (o1 : Nat)) = w2 := ⟨_, rfl⟩
  rw [hw2] at hT1
  have hHGR : Hid (∀ W, Fr (fun k => k = br ∨ w.heap.size < k) w1 W → W.heap[w.heap.size]? = some (.cells #[.int .i64 0, .int .i32 0, .slice none 0 0, .bool false, .int .i64 0, .int .i64 0, .slice none 0 0] 26 (0, 0))) := fun W hW => (hW.block _ (heap_lt hg1) (fun e => by omega)).trans hg1
  have HGR := Lib.hid hHGR.out
  have HBR := Lib.hid hbr
  have HB1 := Lib.hid hb1
  have HW1 := Lib.hid hw1
  have HW2 := Lib.hid hw2
  have HT1 := Lib.hid hT1
  have HL2 := Lib.hid hl2
  have hz1 := heap_lt hg1
  obtain ⟨a, cap, hlook⟩ := hs.look
  obtain ⟨e0, e1, e2, e3, e4, fz, -, -⟩ := hlook (fun _ => False) w1 (Fr.refl _ _) (fun _ h => h.elim)
  have e3f := fz 3
  obtain ⟨a2, cap2, hlook2⟩ := hT1.1.look
  obtain ⟨f0, f1, f2, f3, f4, fz2, -, -⟩ := hlook2 (fun _ => False) w2 (Fr.refl _ _) (fun _ h => h.elim)
  have f2f := fz2 2
  obtain ⟨R0, hR0⟩ : ∃ R0, grpR rec l n o = R0 := ⟨_, rfl⟩
  rw [hR0]
  by_cases ho16 : o = 16
  · have HR9 : Hid (R0 = .error 12) := by show _ = _; rw [← hR0, grpR, if_pos ho16]
    have g1 : (16 : Int) < (o1 : Int) := by omega
    have HFL : Hid (Calls Try.prog 38 #[.pointer (some ⟨br, 0, none⟩), .int .i64 12] w2 (FlAns w2 br p 12)) := fail_any br p _ _ _ w2 HT1.out.1 12
    clear hw1 hb1 hg1 hs hl hT1 hw2 hl2 hlook hlook2 fz fz2 hR0 h hHGR ho16 ho1 hn1 hi2e e0 e1 e2 e4 f0 f1 f2 f4
    go_enter Try.func39, Try.ntmps39
    go_upto_region 1 with fail
    rw [HW1.out]
    go_upto_region 2 with fail
    rw [HW2.out]
    go_wp2_with (go_at_call 38; refine HFL.out.mono ?_; rintro e w5 ⟨rfl, H5⟩; have HG5 := Lib.hid (HGR.out w5 ((HT1.out.2.mono (fun _ _ h => Or.inl h)).trans H5.out.2 (fun k _ h => Or.inl h))); obtain ⟨a0, a1, a2, a3, a4, a5, a6, z0, z1, z2, z3, z4, z5, z6⟩ := row7 HG5.out)
    have HPUT := Lib.hid (put7 HG5.out (.int .i64 0) (.int .i32 0) (.slice none 0 0) (.bool false) (.int .i64 0) (.int .i64 0) (.slice none 0 0))
    refine bodyPost_ret (v := .agg #[.int .i64 0, .int .i32 0, .slice none 0 0, .bool false, .int .i64 0, .int .i64 0, .slice none 0 0]) ?_ rfl ?_
    · rw [results_cell1 rfl]
      go_simp
    · show RfAns w br p o R0 _ _
      rw [HR9.out]
      exact RfAns.err (RfAns.putX (((Fr.of_below (fun k => k = br ∨ w.heap.size ≤ k) HB1.out).trans HT1.out.2 (fun k _ h => Or.inl h)).trans H5.out.2 (fun k _ h => Or.inl h)) H5.out.1 HBR.out HPUT.out.2)
  have g1 : ¬ (16 : Int) < (o1 : Int) := by omega
  -- the state behind: groups, place
  have hT2 := HT1.out.1.setN (n1 : Nat)
  obtain ⟨w3, hw3⟩ : ∃ w3, w2.setCell ⟨br, 2, none⟩ (.int .i64 (n1 : Nat)) = w3 := ⟨_, rfl⟩
  rw [hw3] at hT2
  have hT3 := hT2.1.setAt (i2 : Nat)
  obtain ⟨w4, hw4⟩ : ∃ w4, w3.setCell ⟨br, 1, none⟩ (.int .i64 (i2 : Nat)) = w4 := ⟨_, rfl⟩
  rw [hw4] at hT3
  obtain ⟨a3, cap3, hlook3⟩ := hT2.1.look
  obtain ⟨g0, g1', g2, g3, g4, fz3, -, -⟩ := hlook3 (fun _ => False) w3 (Fr.refl _ _) (fun _ h => h.elim)
  have g1f := fz3 1
  have HW3 := Lib.hid hw3
  have HW4 := Lib.hid hw4
  have HN4 : Hid (RfN w4 br p l n1 o1 ∧ Fr (· = br) w1 w4) := ⟨⟨i2, hT3.1, hl2, hi2, by omega, hp, by omega⟩, (HT1.out.2.trans hT2.2 (fun _ _ h => h)).trans hT3.2 (fun _ _ h => h)⟩
  have HALT : Hid (Calls Try.prog 20 #[.pointer (some ⟨br, 0, none⟩)] w4 (RfAns w4 br p o1 (rec l n1 o1))) := by
    have := hrec (by omega)
    rw [ho1] at this
    exact this br p l n1 w4 hp5 HN4.out.1
  have hgr : R0 = match rec l n1 o1 with
    | .error e => .error e
    | .ok (x, l', n') => if pre [92, 41] l' then .ok (x.grp n1, l'.drop 2, n') else .error 10 := by rw [← hR0, grpR_of rec l n o ho16, ho1, hn1]
  cases hrr : rec l n1 o1 with
  | error c =>
    rw [hrr] at hgr HALT
    have HR9 := Lib.hid hgr
    have hc0 : (c != 0) = true := by
      have := hnz ho16 l n1
      rw [ho1, hrr] at this
      simpa using this
    have HOPEN : Hid (∀ e w5, RfAns w4 br p o1 (.error c) e w5 → ∃ k4 r4 sa4 sn4 sc4 nt4 l4 h4 pa4 pn4 pc4 w6, e = .returned (.agg #[.int .i64 k4, .int .i32 r4, .slice sa4 sn4 sc4, .bool nt4, .int .i64 l4, .int .i64 h4, .slice pa4 pn4 pc4]) ∧ w5.alloc (.cells #[.int .i64 k4, .int .i32 r4, .slice sa4 sn4 sc4, .bool nt4, .int .i64 l4, .int .i64 h4, .slice pa4 pn4 pc4] 26) = w6 ∧ w6.cell? ⟨br, 4, none⟩ = some (.int .i64 c) ∧ w6.heap[w.heap.size]? = some (.cells #[.int .i64 0, .int .i32 0, .slice none 0 0, .bool false, .int .i64 0, .int .i64 0, .slice none 0 0] 26 (0, 0)) ∧ Hid (RfX w6 br p c ∧ Fr (· = br) w1 w6)) := by
      rintro e w5 ⟨k4, r4, sa4, sn4, sc4, nt4, l4, h4, pa4, pn4, pc4, rfl, hx, hf⟩
      have hb6 := bal w5 (.cells #[.int .i64 k4, .int .i32 r4, .slice sa4 sn4 sc4, .bool nt4, .int .i64 l4, .int .i64 h4, .slice pa4 pn4 pc4] 26)
      have hx6 := hx.below hb6
      have hf6 := (HN4.out.2.trans hf (fun _ _ h => h)).trans (Fr.of_below (fun _ => False) hb6) (fun _ _ h => h.elim)
      refine ⟨k4, r4, sa4, sn4, sc4, nt4, l4, h4, pa4, pn4, pc4, _, rfl, rfl, ?_, HGR.out _ (hf6.mono (fun _ _ h => Or.inl h)), hx6, hf6⟩
      obtain ⟨_, _, _, hx7⟩ := hx6
      obtain ⟨_, _, hlk⟩ := hx7.look
      exact (hlk (fun _ => False) _ (Fr.refl _ _) (fun _ h => h.elim)).2.2.2.2.1
    clear hw1 hb1 hg1 hs hl hT1 hw2 hl2 hlook hlook2 hlook3 fz fz2 fz3 hR0 h hHGR ho16 ho1 hn1 hi2e e0 e1 e2 e4 f0 f1 f4 hT2 hT3 hw3 hw4 hrr hgr g0 g3 g4
    go_enter Try.func39, Try.ntmps39
    go_upto_region 1 with fail
    rw [HW1.out]
    go_upto_region 2 with fail
    rw [HW2.out]
    go_upto_region 5 with fail
    rw [HW3.out]
    go_upto_region 7 with fail
    rw [HW4.out]
    go_upto_region 8 with (go_at_call 20; refine HALT.out.mono ?_; intro e w5 hh; obtain ⟨k4, r4, sa4, sn4, sc4, nt4, l4, h4, pa4, pn4, pc4, w6, he, hw6, hc4, hr6, H6⟩ := HOPEN.out e w5 hh; subst he; clear hh)
    (try rw [hw6])
    clear hw6
    obtain ⟨a0, a1, a2, a3, a4, a5, a6, z0, z1, z2, z3, z4, z5, z6⟩ := row7 hr6
    have HPUT := Lib.hid (put7 hr6 (.int .i64 0) (.int .i32 0) (.slice none 0 0) (.bool false) (.int .i64 0) (.int .i64 0) (.slice none 0 0))
    clear hr6
    go_wp2
    refine bodyPost_ret (v := .agg #[.int .i64 0, .int .i32 0, .slice none 0 0, .bool false, .int .i64 0, .int .i64 0, .slice none 0 0]) ?_ rfl ?_
    · rw [results_cell1 rfl]
      go_simp
    · show RfAns w br p o R0 _ _
      rw [HR9.out]
      exact RfAns.err (RfAns.putX ((Fr.of_below (fun k => k = br ∨ w.heap.size ≤ k) HB1.out).trans H6.out.2 (fun k _ h => Or.inl h)) H6.out.1 HBR.out HPUT.out.2)
  | ok qa =>
    obtain ⟨x, l', n'⟩ := qa
    rw [hrr] at hgr HALT
    replace hgr : R0 = if pre [92, 41] l' then .ok (x.grp n1, l'.drop 2, n') else .error 10 := hgr
    have hend' := hend _ _ _ _ _ _ hrr
    -- what alternatives leave, opened
    have HOPEN : Hid (∀ e w5, RfAns w4 br p o1 (.ok (x, l', n')) e w5 → ∃ k4 r4 sa4 sn4 sc4 nt4 l4 h4 pa4 pn4 pc4 w6, e = .returned (.agg #[.int .i64 k4, .int .i32 r4, .slice sa4 sn4 sc4, .bool nt4, .int .i64 l4, .int .i64 h4, .slice pa4 pn4 pc4]) ∧ w5.alloc (.cells #[.int .i64 k4, .int .i32 r4, .slice sa4 sn4 sc4, .bool nt4, .int .i64 l4, .int .i64 h4, .slice pa4 pn4 pc4] 26) = w6 ∧ w6.cell? ⟨br, 4, none⟩ = some (.int .i64 0) ∧ w6.heap[w5.heap.size]? = some (.cells #[.int .i64 k4, .int .i32 r4, .slice sa4 sn4 sc4, .bool nt4, .int .i64 l4, .int .i64 h4, .slice pa4 pn4 pc4] 26 (0, 0)) ∧ Hid (w.heap.size < w5.heap.size) ∧ Hid (RfN w6 br p l' n' o1) ∧ Hid (Fr (· = br) w1 w6) ∧ Hid (ReAt (fun k => w.heap.size < k ∧ k < w5.heap.size) w6 [.int .i64 k4, .int .i32 r4, .slice sa4 sn4 sc4, .bool nt4, .int .i64 l4, .int .i64 h4, .slice pa4 pn4 pc4] x)) := by
      rintro e w5 ⟨k4, r4, sa4, sn4, sc4, nt4, l4, h4, pa4, pn4, pc4, rfl, hre, hx, hf⟩
      have hb6 := bal w5 (.cells #[.int .i64 k4, .int .i32 r4, .slice sa4 sn4 sc4, .bool nt4, .int .i64 l4, .int .i64 h4, .slice pa4 pn4 pc4] 26)
      have hx6 := hx.below hb6
      have hf6 := (HN4.out.2.trans hf (fun _ _ h => h)).trans (Fr.of_below (fun _ => False) hb6) (fun _ _ h => h.elim)
      have hs14 := HN4.out.2.size
      have hs45 := hf.size
      obtain ⟨_, _, _, _, _, _, _, c4, _⟩ := hx6.cells
      exact ⟨k4, r4, sa4, sn4, sc4, nt4, l4, h4, pa4, pn4, pc4, _, rfl, rfl, c4, heap_alloc_new w5 _, by show _ < _; omega, hx6, hf6, ReAt.mono (fun k hk => ⟨by have := hk.1; omega, hk.2⟩) x (ReAt.frF (Fr.of_below (fun _ => False) hb6) (fun _ _ h => h) x hre)⟩
    have HO1 := Lib.hid ho1
    have HOO : Hid (o ≤ 16) := ho
    clear hw1 hb1 hg1 hs hl hT1 hw2 hl2 hlook hlook2 hlook3 fz fz2 fz3 hR0 h hHGR ho16 ho1 hn1 hi2e e0 e1 e2 e4 f0 f1 f4 hT2 hT3 hw3 hw4 hrr g0 g3 g4
    have HGRR := Lib.hid hgr
    have HEND := Lib.hid hend'
    clear hgr hend'
    go_enter Try.func39, Try.ntmps39
    go_upto_region 1 with fail
    rw [HW1.out]
    go_upto_region 2 with fail
    rw [HW2.out]
    go_upto_region 5 with fail
    rw [HW3.out]
    go_upto_region 7 with fail
    rw [HW4.out]
    go_upto_region 8 with (go_at_call 20; refine HALT.out.mono ?_; intro e w5 hh; obtain ⟨k4, r4, sa4, sn4, sc4, nt4, l4, h4, pa4, pn4, pc4, w6, he, hw6, hc4, hx5, HLT, HN6, HF6, HRE⟩ := HOPEN.out e w5 hh; subst he; clear hh)
    (try rw [hw6])
    obtain ⟨X, hX⟩ : ∃ X, w5.heap.size = X := ⟨_, rfl⟩
    rw [hX] at hx5 HLT HRE
    (try rw [hX])
    have HX5 := Lib.hid hx5
    clear hw6 hX hx5 e3 e3f f2 f2f f3 g1' g1f g2
    obtain ⟨a, cap, j, c0, c1, c2, c3, c4, cz, hr, hs, hl, hj, hnj, hp2, ho2⟩ := HN6.out.cells
    obtain ⟨q, hq⟩ : ∃ q, p.length = q := ⟨_, rfl⟩
    rw [hq] at c0 hj
    have hsm := hr.small
    rw [hq] at hsm
    have hqb : q ≤ 1000000 := by omega
    have HQ := Lib.hid hq
    have HLJ := Lib.hid hl
    have HSJ := Lib.hid hs
    have HNJ := Lib.hid hnj
    clear hr hs hl hq hnj hp2 ho2 c2 c4 cz hc4
    have hc4 : w6.cell? ⟨br, 4, none⟩ = some (.int .i64 0) := by obtain ⟨_, _, _, _, _, _, _, h, _⟩ := HN6.out.cells; exact h
    go_upto_region 10 with fail
    by_cases hjq : q ≤ j
    · -- no bracket
      have gq : (q : Int) ≤ (j : Int) := by omega
      have HR9 : Hid (R0 = .error 10) := by
        show _ = _
        have he : l' = [] := by rw [HLJ.out]; exact List.drop_eq_nil_of_le (by have := HQ.out; omega)
        rw [HGRR.out, he]
        rfl
      go_quiet (fail)
      obtain ⟨wv, hwv⟩ : ∃ wv, w6.drewN nq = wv := ⟨_, rfl⟩
      have HWV : Hid (Below w6.heap.size w6 wv) := by rw [← hwv]; exact bdrewN (Below.refl _ _) _
      rw [hwv]
      clear hwv
      have HFL : Hid (Calls Try.prog 38 #[.pointer (some ⟨br, 0, none⟩), .int .i64 10] wv (FlAns wv br p 10)) := fail_any br p _ _ _ wv (HSJ.out.fr (Fr.of_below (fun _ => False) HWV.out) (fun _ h => h.elim)) 10
      go_wp2_with (go_at_call 38; refine HFL.out.mono ?_; rintro e w8 ⟨rfl, H8⟩; have HK := Lib.hid ((HF6.out.trans (Fr.of_below (fun _ => False) HWV.out) (fun _ _ h => h.elim)).trans H8.out.2 (fun _ _ h => h)); have HG8 := Lib.hid (HGR.out w8 (HK.out.mono (fun _ _ h => Or.inl h))); obtain ⟨a0, a1, a2, a3, a4, a5, a6, z0, z1, z2, z3, z4, z5, z6⟩ := row7 HG8.out)
      have HPUT := Lib.hid (put7 HG8.out (.int .i64 0) (.int .i32 0) (.slice none 0 0) (.bool false) (.int .i64 0) (.int .i64 0) (.slice none 0 0))
      refine bodyPost_ret (v := .agg #[.int .i64 0, .int .i32 0, .slice none 0 0, .bool false, .int .i64 0, .int .i64 0, .slice none 0 0]) ?_ rfl ?_
      · rw [results_cell1 rfl]
        go_simp
      · show RfAns w br p o R0 _ _
        rw [HR9.out]
        exact RfAns.err (RfAns.putX ((Fr.of_below (fun k => k = br ∨ w.heap.size ≤ k) HB1.out).trans HK.out (fun k _ h => Or.inl h)) H8.out.1 HBR.out HPUT.out.2)
    have gq : ¬ (q : Int) ≤ (j : Int) := by omega
    have HP41 : Hid (pre [92, 41] l' = true) := by
      rcases HEND.out with he | he
      · exfalso
        have h1 := HLJ.out
        rw [he] at h1
        have := congrArg List.length h1
        simp only [List.length_nil, List.length_drop] at this
        have := HQ.out
        omega
      · exact he
    have hj2 : j + 2 ≤ q := by
      have := pre_len HP41.out
      rw [HLJ.out] at this
      simp only [List.length_cons, List.length_nil, List.length_drop] at this
      have := HQ.out
      omega
    obtain ⟨j2, hj2e⟩ : ∃ j2, j + 2 = j2 := ⟨_, rfl⟩
    have kj : (j : Int) + 2 = (j2 : Int) := by omega
    have ko : (o1 : Int) - 1 = (o : Int) := by have := HO1.out; omega
    have HR9 : Hid (R0 = .ok (x.grp n1, p.drop j2, n')) := by
      show _ = _
      rw [HGRR.out, HP41.out, HLJ.out, List.drop_drop, hj2e]
      rfl
    have HJ2 : Hid (j2 ≤ q ∧ n' ≤ j2) := ⟨by omega, by have := HNJ.out; omega⟩
    clear hj2e
    go_quiet (fail)
    obtain ⟨wv, hwv⟩ : ∃ wv, w6.drewN nq = wv := ⟨_, rfl⟩
    have HWV : Hid (Below w6.heap.size w6 wv) := by rw [← hwv]; exact bdrewN (Below.refl _ _) _
    rw [hwv]
    clear hwv c0 c1 c3 hc4
    have HSV := Lib.hid (HSJ.out.fr (Fr.of_below (fun _ => False) HWV.out) (fun _ h => h.elim))
    obtain ⟨a5, cap5, hlook5⟩ := HSV.out.look
    obtain ⟨v0, v1, v2, v3, v4, vz, -, -⟩ := hlook5 (fun _ => False) wv (Fr.refl _ _) (fun _ h => h.elim)
    have v1f := vz 1
    have hT7 := HSV.out.setAt (j2 : Nat)
    obtain ⟨w7, hw7⟩ : ∃ w7, wv.setCell ⟨br, 1, none⟩ (.int .i64 (j2 : Nat)) = w7 := ⟨_, rfl⟩
    rw [hw7] at hT7
    have hT8 := hT7.1.setO (o : Nat)
    obtain ⟨w8, hw8⟩ : ∃ w8, w7.setCell ⟨br, 3, none⟩ (.int .i64 (o : Nat)) = w8 := ⟨_, rfl⟩
    rw [hw8] at hT8
    obtain ⟨a6, cap6, hlook6⟩ := hT7.1.look
    obtain ⟨u0, u1, u2, u3, u4, uz, -, -⟩ := hlook6 (fun _ => False) w7 (Fr.refl _ _) (fun _ h => h.elim)
    have u3f := uz 3
    have hf68 : Fr (· = br) w6 w8 := ((Fr.of_below (· = br) HWV.out).trans hT7.2 (fun _ _ h => h)).trans hT8.2 (fun _ _ h => h)
    have hx8 := (hf68.block X (heap_lt HX5.out) (fun e => by have := HLT.out; have := HBR.out; omega)).trans HX5.out
    obtain ⟨w9, hw9⟩ : ∃ w9, w8.alloc (.cells #[.int .i64 k4, .int .i32 r4, .slice sa4 sn4 sc4, .bool nt4, .int .i64 l4, .int .i64 h4, .slice pa4 pn4 pc4] 26) = w9 := ⟨_, rfl⟩
    have hb9 : Below w8.heap.size w8 w9 := by rw [← hw9]; exact bal _ _
    have hg9 : w9.heap[w8.heap.size]? = some (.cells #[.int .i64 k4, .int .i32 r4, .slice sa4 sn4 sc4, .bool nt4, .int .i64 l4, .int .i64 h4, .slice pa4 pn4 pc4] 26 (0, 0)) := by rw [← hw9]; exact heap_alloc_new w8 _
    have hf19 : Fr (· = br) w1 w9 := (HF6.out.trans hf68 (fun _ _ h => h)).trans (Fr.of_below (fun _ => False) hb9) (fun _ _ h => h.elim)
    have HG9 := Lib.hid (HGR.out w9 (hf19.mono (fun _ _ h => Or.inl h)))
    have HN9 : Hid (RfN w9 br p (p.drop j2) n' o) := RfN.below (⟨j2, hT8.1, rfl, by have := HJ2.out.1; have := HQ.out; omega, HJ2.out.2, by have := HQ.out; omega, HOO.out⟩ : RfN w8 br p (p.drop j2) n' o) hb9
    have hre9 := ReAt.frF (hf68.trans (Fr.of_below (fun _ => False) hb9) (fun _ _ h => h.elim)) (fun k hk e => by have := hk.1; have := HBR.out; omega) x HRE.out
    have hwrap := ReAt.wrap hre9 (Below.refl _ _) _ _ hg9 11 (n1 : Nat) 0
    have hX8 : X < w8.heap.size := heap_lt hx8
    have hs9 := heap_lt hg9
    have HWRAP : Hid (ReAt (fun k => w.heap.size < k ∧ k < w9.heap.size) w9 [.int .i64 11, .int .i32 0, .slice none 0 0, .bool false, .int .i64 (n1 : Nat), .int .i64 0, .slice (some ⟨w8.heap.size, 0, none⟩) 1 1] (x.grp n1)) := ReAt.mono (fun k hk => by
      have := HLT.out
      rcases hk with hk | hk
      · exact ⟨hk.1, by omega⟩
      · exact ⟨by omega, by omega⟩) _ hwrap
    have HF19 := Lib.hid hf19
    have HW7 := Lib.hid hw7
    have HW8 := Lib.hid hw8
    obtain ⟨p0, p1, p2, p3, p4, p5, p6, -⟩ := row7 hx8
    obtain ⟨t0, t1, t2, t3, t4, t5, t6, z0, z1, z2, z3, z4, z5, z6⟩ := row7 HG9.out
    have HPUT := Lib.hid (put7 HG9.out (.int .i64 11) (.int .i32 0) (.slice none 0 0) (.bool false) (.int .i64 (n1 : Nat)) (.int .i64 0) (.slice (some ⟨w8.heap.size, 0, none⟩) 1 1))
    clear hlook5 hlook6 vz uz hT7 hT8 hw7 hw8 hx8 hb9 hg9 hf19 hf68 hre9 hwrap v0 v2 v4 v3 u0 u1 u2 u4 hX8 hs9
    have v1' := v1
    go_upto_region 13 with fail
    rw [HW7.out]
    go_upto_region 14 with fail
    rw [HW8.out]
    go_wp2
    (try rw [hw9])
    refine bodyPost_ret (v := .agg #[.int .i64 11, .int .i32 0, .slice none 0 0, .bool false, .int .i64 (n1 : Nat), .int .i64 0, .slice (some ⟨w8.heap.size, 0, none⟩) 1 1]) ?_ rfl ?_
    · rw [results_cell1 rfl]
      go_simp
    · show RfAns w br p o R0 _ _
      rw [HR9.out]
      refine RfAns.ok ?_
      exact RfAns.put (w2 := w9) (by have := HF19.out.size; have := heap_lt (HGR.out w1 (Fr.refl _ _)); omega) ((Fr.of_below (fun k => k = br ∨ w.heap.size ≤ k) HB1.out).trans HF19.out (fun k _ h => Or.inl h)) HWRAP.out HN9.out HBR.out HPUT.out.2
end Go.Proofs.Ytkjiobbkbhmijaa.U
