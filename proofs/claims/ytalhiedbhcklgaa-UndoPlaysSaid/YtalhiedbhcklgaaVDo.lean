/-
  The program's Do.
-/
import Derived.Test.YtalhiedbhcklgaaVFit
namespace Go.Proofs.Ytalhiedbhcklgaa.U
open Go.RowKit
set_option linter.unusedVariables false
set_option linter.unusedSimpArgs false
set_option maxRecDepth 100000

theorem doC_no {L : List (List Int)} {c : Ch} (h : fitB L c = false) : doC L c = ([], 2) := by
  unfold fitB at h
  rw [decide_eq_false_iff_not] at h
  unfold doC
  rw [if_neg h]
theorem doC_yes {L : List (List Int)} {c : Ch} {k : Nat} (h : fitB L c = true) (hk : c.pos = k) : k + c.old.length ≤ L.length ∧ doC L c = if L.length - c.old.length + c.now.length = 0 then ([], 1) else (L.take k ++ (c.now ++ L.drop (k + c.old.length)), 0) := by
  unfold fitB at h
  rw [decide_eq_true_eq] at h
  refine ⟨by omega, ?_⟩
  unfold doC
  have h0 : c.pos.toNat = k := by omega
  rw [if_pos h, h0]
theorem fitB_pos {L : List (List Int)} {c : Ch} (h : fitB L c = true) : ∃ k : Nat, c.pos = k := by
  unfold fitB at h
  rw [decide_eq_true_eq] at h
  exact ⟨c.pos.toNat, by omega⟩
/-- three pieces of lines in a row -/
theorem rows3 {F G : Nat → Prop} {w w' : World} {vs1 vs2 vs3 : List Value} {L1 L2 L3 : List (List Int)} {a : Option Addr} {n c : Nat} (h1 : RowsAt F w vs1 L1) (h2 : RowsAt G w vs2 L2) (h3 : RowsAt F w vs3 L3) (hb : Below w.heap.size w w') (ho : w'.ownsRow w.heap.size 52 1 (.slice a n c) n (vs1 ++ vs2 ++ vs3)) :
    RdL (fun k => F k ∨ G k ∨ w.heap.size ≤ k) w' a n c (L1 ++ (L2 ++ L3)) := by
  refine ⟨vs1 ++ vs2 ++ vs3, Rc.own ho, InF.own ho (fun k e => .inr (.inr (ho.lt k e).1)), ?_⟩
  rw [List.append_assoc]
  exact ((h1.below hb).mono (fun k hk => .inl hk)).append (((h2.below hb).mono (fun k hk => .inr (.inl hk))).append ((h3.below hb).mono (fun k hk => .inl hk)))

set_option maxHeartbeats 4000000 in
theorem do_any (F G : Nat → Prop) (a oa na : Option Addr) (n cap oc nc : Nat) (L : List (List Int)) (c : Ch) (w : World) (h : RdL F w a n cap L) (ho : RdL G w oa c.old.length oc c.old) (hn : RdL G w na c.now.length nc c.now) (hp : i64b c.pos) (hs : sizeN (lens L) + sizeN (lens c.now) ≤ 1048576) :
    Calls Try.prog 13 #[.slice a n cap, .agg #[.int .i64 c.pos, .slice oa c.old.length oc, .slice na c.now.length nc]] w fun e w' => ∃ a' c', e = .returned (.tuple #[.slice a' (doC L c).1.length c', .int .i64 (doC L c).2]) ∧ FreshL w.heap.size w' a' (doC L c).1.length c' (doC L c).1 ∧ Below w.heap.size w w' := by
  obtain ⟨wb, hwb⟩ : ∃ wb, w.alloc (.cells #[.int .i64 c.pos, .slice oa c.old.length oc, .slice na c.now.length nc] 24) = wb := ⟨_, rfl⟩
  have hB : Below w.heap.size w wb := by rw [← hwb]; exact (Below.refl _ _).alloc (Nat.le_refl _) _
  have hsz : wb.heap.size = w.heap.size + 1 := by rw [← hwb]; simp
  have g1 : wb.heap[w.heap.size]? = some (.cells #[.int .i64 c.pos, .slice oa c.old.length oc, .slice na c.now.length nc] 24 (0, 0)) := by rw [← hwb]; exact heap_alloc_new w _
  have HC : Hid (∀ W, Below wb.heap.size wb W → W.cell? ⟨w.heap.size, 0, none⟩ = some (.int .i64 c.pos) ∧ W.cell? ⟨w.heap.size, 1, none⟩ = some (.slice oa c.old.length oc) ∧ W.cell? ⟨w.heap.size, 2, none⟩ = some (.slice na c.now.length nc) ∧ w.heap.size < W.heap.size) := by
    intro W hW
    have h1 := (hW.block w.heap.size (by omega)).trans g1
    exact ⟨cell_row h1 0, cell_row h1 1, cell_row h1 2, heap_lt h1⟩
  have HFI := Lib.hid (fits_any F G a oa na n cap oc nc L c wb (h.below hB) (ho.below hB) hp)
  have hsn := h.small
  have hl := h.len
  have hcn : n ≤ cap := by obtain ⟨vs, hv, _⟩ := h; exact hv.2.1
  have hcm : cap ≤ 9223372036854775807 := by obtain ⟨vs, hv, _⟩ := h; have := hv.2.2.1; unfold maxLen at this; omega
  have hcnt := size_count L
  have hcnt2 := size_count c.now
  have HW := Lib.hid hwb
  have HB := Lib.hid hB
  obtain ⟨c0, c1, c2, l0⟩ := HC.out wb (Below.refl _ _)
  cases hfit : fitB L c with
  | false =>
    rw [hfit] at HFI
    rw [doC_no hfit]
    have HFN := Lib.hid (FreshL.nil w.heap.size)
    simp only [List.length_nil]
    obtain ⟨on, hx⟩ : ∃ x, c.old.length = x := ⟨_, rfl⟩
    obtain ⟨nn, hy⟩ : ∃ x, c.now.length = x := ⟨_, rfl⟩
    obtain ⟨p, hpe⟩ : ∃ x, c.pos = x := ⟨_, rfl⟩
    rw [hx, hy, hpe] at HW HFI
    rw [hx] at c1
    rw [hy] at c2
    rw [hpe] at c0
    rw [hx, hy, hpe]
    clear h ho hn hp hs hwb hB hsz g1 hl hcnt hcnt2 hx hy hpe hfit HC
    go_enter Try.func13, Try.ntmps13
    go_upto_region 1 with fail
    rw [HW.out]
    go_wp2_with fail
    refine HFI.out.mono ?_
    rintro e w1 ⟨rfl, hb1⟩
    go_wp2_with fail
    go_ret2
    exact ⟨_, _, rfl, HFN.out w1, HB.out.trans (hb1.mono HB.out.size)⟩
  | true =>
    rw [hfit] at HFI
    obtain ⟨k, hk⟩ := fitB_pos hfit
    obtain ⟨hkn, hdo⟩ := doC_yes hfit hk
    have hso := h.len
    have HA : Hid (∀ W, Below wb.heap.size wb W → ∀ (A : Option Addr) (C : Nat), A = (if cap = k + c.old.length then a else a.map (·.add ((k + c.old.length) * 1))) → C = cap - (k + c.old.length) →
        Calls Try.prog 41 #[.slice (some ⟨W.heap.size, 0, none⟩) 3 3] (W.alloc (.cells #[.slice a k cap, .slice na c.now.length nc, .slice A (n - (k + c.old.length)) C] 22)) fun e w' => ∃ a' c', e = .returned (.slice a' (k + c.now.length + (n - (k + c.old.length))) c') ∧ Hid (RdL (fun j => F j ∨ G j ∨ wb.heap.size + 1 ≤ j) w' a' (k + c.now.length + (n - (k + c.old.length))) c' (L.take k ++ (c.now ++ L.drop (k + c.old.length))) ∧ Below wb.heap.size wb w')) := by
      intro W hW A C hA hC
      subst hA hC
      have hbW := hB.trans (hW.mono (by omega))
      obtain ⟨W2, hW2⟩ : ∃ W2, W.alloc (.cells #[.slice a k cap, .slice na c.now.length nc, .slice (if cap = k + c.old.length then a else a.map (·.add ((k + c.old.length) * 1))) (n - (k + c.old.length)) (cap - (k + c.old.length))] 22) = W2 := ⟨_, rfl⟩
      have hb2 : Below W.heap.size W W2 := by rw [← hW2]; exact (Below.refl _ _).alloc (Nat.le_refl _) _
      have hg2 : W2.heap[W.heap.size]? = some (.cells #[.slice a k cap, .slice na c.now.length nc, .slice (if cap = k + c.old.length then a else a.map (·.add ((k + c.old.length) * 1))) (n - (k + c.old.length)) (cap - (k + c.old.length))] 22 (0, 0)) := by rw [← hW2]; exact heap_alloc_new W _
      have hs2 : W2.heap.size = W.heap.size + 1 := by rw [← hW2]; simp
      have hL := (h.below hbW).below hb2
      obtain ⟨vs1, r1, i1, t1⟩ := hL.take k (by omega)
      obtain ⟨vs2, r2, i2, t2⟩ := (hn.below hbW).below hb2
      obtain ⟨vs3, r3, i3, t3⟩ := hL.drop (k + c.old.length) (by omega)
      rw [hW2]
      refine (concat3 W.heap.size a na _ k cap c.now.length nc _ _ vs1 vs2 vs3 W2 (cell_row hg2 0) (cell_row hg2 1) (cell_row hg2 2) r1 r2 r3 t1.one1 t2.one1 t3.one1 (by omega)).mono ?_
      rintro e w' ⟨a', c', rfl, hown, hb3⟩
      rw [hs2] at hb3
      refine ⟨a', c', rfl, (rows3 t1 t2 t3 (by rw [hs2]; exact hb3) hown).mono (fun j hj => by rw [hs2] at hj; have := hW.size; rcases hj with hj | hj | hj; exact .inl hj; exact .inr (.inl hj); exact .inr (.inr (by omega))), hW.trans ((hb2.trans (hb3.mono (by omega))).mono hW.size)⟩
    have hsize : sizeN (lens (L.take k ++ (c.now ++ L.drop (k + c.old.length)))) ≤ 1048576 := by
      rw [lens_append, lens_append, sizeN_append, sizeN_append]
      have q1 := sizeN_append (lens (L.take k)) (lens (L.drop k))
      rw [← lens_append, List.take_append_drop] at q1
      have q2 : sizeN (lens (L.drop (k + c.old.length))) ≤ sizeN (lens (L.drop k)) := by
        rw [← List.drop_drop]
        have := sizeN_drop_le2 (lens (L.drop k)) c.old.length
        unfold lens at this ⊢
        rw [← List.map_drop] at this
        exact this
      omega
    have hlen : (L.take k ++ (c.now ++ L.drop (k + c.old.length))).length = k + c.now.length + (n - (k + c.old.length)) := by
      simp only [List.length_append, List.length_take, List.length_drop]; omega
    obtain ⟨R, hR⟩ : ∃ R, L.take k ++ (c.now ++ L.drop (k + c.old.length)) = R := ⟨_, rfl⟩
    rw [hR] at HA hsize hlen hdo
    obtain ⟨D, hD⟩ : ∃ D, doC L c = D := ⟨_, rfl⟩
    rw [hD]
    have HD : Hid (D = if L.length - c.old.length + c.now.length = 0 then ([], 1) else (R, 0)) := by rw [← hD]; exact hdo
    have HCO : Hid (∀ W (a' : Option Addr) (c' : Nat), Hid (RdL (fun j => F j ∨ G j ∨ wb.heap.size + 1 ≤ j) W a' (k + c.now.length + (n - (k + c.old.length))) c' R ∧ Below wb.heap.size wb W) → Calls Try.prog 42 #[.slice a' (k + c.now.length + (n - (k + c.old.length))) c'] W fun e w' => ∃ a2 c2, e = .returned (.slice a2 (k + c.now.length + (n - (k + c.old.length))) c2) ∧ Hid (FreshL w.heap.size w' a2 (k + c.now.length + (n - (k + c.old.length))) c2 R ∧ Below w.heap.size w w')) := by
      intro W a' c' hh
      obtain ⟨h1, h2⟩ := hh.out
      have := h2.size
      refine (copiedLines_any _ a' _ c' R W h1 hsize).mono ?_
      rintro e w' ⟨a2, c2, rfl, hf, hb⟩
      exact ⟨a2, c2, rfl, hf.base (by omega), (hB.trans (h2.mono (by omega))).trans (hb.mono (by omega))⟩
    have HLEN := Lib.hid hlen
    have HLL := Lib.hid hl
    have HFN := Lib.hid (FreshL.nil w.heap.size)
    have hzero : L.length - c.old.length + c.now.length = k + c.now.length + (n - (k + c.old.length)) := by omega
    have HZ := Lib.hid hzero
    have hkn2 : k + c.old.length ≤ n := by omega
    have hnl : c.now.length ≤ 1048576 := by omega
    have hnl2 : n ≤ 1048576 := by omega
    rw [hk] at c0 HW HFI HC
    rw [hk]
    obtain ⟨on, hx⟩ : ∃ x, c.old.length = x := ⟨_, rfl⟩
    obtain ⟨nn, hy⟩ : ∃ x, c.now.length = x := ⟨_, rfl⟩
    have HX := Lib.hid hx
    have HY := Lib.hid hy
    rw [hx, hy] at HW HFI HA HCO HD HZ HLEN HC
    rw [hx] at c1 hkn2
    rw [hy] at c2 hnl
    rw [hx, hy]
    clear h ho hn hp hs hwb hsz g1 hl hcnt hcnt2 hx hy hfit hk hkn hdo hso hsize hlen hR hD hzero
    obtain ⟨j, hj⟩ : ∃ j, k + on = j := ⟨_, rfl⟩
    have y1 : IntKind.i64.wrap ((k : Int) + (on : Int)) = (j : Int) := by rw [IntKind.wrap_i64]; omega
    have y5 : (j : Int) ≤ (n : Int) := by omega
    have y6 : (k : Int) ≤ (cap : Int) := by omega
    rw [hj] at HA HCO HZ HLEN hkn2
    obtain ⟨M, hM⟩ : ∃ M, k + nn + (n - j) = M := ⟨_, rfl⟩
    rw [hM] at HA HCO HZ HLEN
    have hMb : M ≤ 2097152 := by omega
    clear hB hj hM
    have HRES : Hid (∀ (a' : Option Addr) (c' : Nat) (w' : World), FreshL w.heap.size w' a' M c' R → 0 < M → ∃ a3 c3, (Ending.returned (.tuple #[.slice a' M c', .int .i64 0]) : Ending) = .returned (.tuple #[.slice a3 D.1.length c3, .int .i64 D.2]) ∧ FreshL w.heap.size w' a3 D.1.length c3 D.1) := by
      intro a' c' w' hf hM0
      have e := HD.out
      rw [HZ.out, if_neg (by omega)] at e
      subst e
      exact ⟨a', c', by simp only [HLEN.out], by simp only [HLEN.out]; exact hf⟩
    have HRES0 : Hid (∀ (w' : World), M = 0 → ∃ a3 c3, (Ending.returned (.tuple #[.slice none 0 0, .int .i64 1]) : Ending) = .returned (.tuple #[.slice a3 D.1.length c3, .int .i64 D.2]) ∧ FreshL w.heap.size w' a3 D.1.length c3 D.1) := by
      intro w' hM0
      have e := HD.out
      rw [HZ.out, if_pos hM0] at e
      subst e
      exact ⟨none, 0, rfl, HFN.out w'⟩
    go_enter Try.func13, Try.ntmps13
    go_upto_region 1 with fail
    rw [HW.out]
    go_wp2_with fail
    refine HFI.out.mono ?_
    rintro e w1 ⟨rfl, hb1⟩
    clear c0 c1 c2 l0
    obtain ⟨c0, c1, c2, l0⟩ := HC.out w1 hb1
    have HA1 := HA.out w1.drew hb1.drew
    have HB1 : Hid (wb.heap.size ≤ w1.heap.size) := hb1.size
    clear HFI HC hb1
    by_cases hck : cap = j
    · have HA2 := Lib.hid (HA1 a (cap - j) (by rw [if_pos hck]) rfl)
      have HCK : (cap = j) = True := by simpa using hck
      clear hck HA1 HA
      go_wp2_with fail
      go_still_tail 14, (by kernel_rfl)
      change wpList _ _ _ _ _ w1.drew
      go_wp2_with fail
      refine HA2.out.mono ?_
      rintro e w2 ⟨a2, c2, rfl, h2⟩
      have HCC := Lib.hid (HCO.out w2 a2 c2 h2)
      have HB2 : Hid (Below w.heap.size w w2) := HB.out.trans (h2.out.2.mono (by have := HB.out.size; omega))
      clear HA2 HCO h2 c0 c1 l0
      by_cases hM0 : M = 0
      · have HF := Lib.hid (HRES0.out w2 hM0)
        have tM : ((M : Int) == 0) = true := by simp; omega
        clear hM0
        go_wp2_with fail
        go_ret2
        obtain ⟨a3, c3, e3, hf3⟩ := HF.out
        exact ⟨a3, c3, e3, hf3, HB2.out⟩
      · have tM : ((M : Int) == 0) = false := by simp; omega
        have hMp : 0 < M := by omega
        clear hM0
        go_wp2_with fail
        refine HCC.out.mono ?_
        rintro e w3 ⟨a3, c3, rfl, h3⟩
        have HF := Lib.hid (HRES.out a3 c3 w3 h3.out.1 hMp)
        clear HCC
        go_wp2_with fail
        go_ret2
        obtain ⟨a4, c4, e4, hf4⟩ := HF.out
        exact ⟨a4, c4, e4, hf4, h3.out.2⟩
    · have HA2 := HA1 (Option.map (fun x => x.add j) a) (cap - j) (by rw [if_neg hck, Nat.mul_one]) rfl
      have HA2 := Lib.hid HA2
      clear HA1 HA
      go_wp2_with fail
      go_still_tail 14, (by kernel_rfl)
      change wpList _ _ _ _ _ w1.drew
      go_wp2_with fail
      refine HA2.out.mono ?_
      rintro e w2 ⟨a2, c2, rfl, h2⟩
      have HCC := Lib.hid (HCO.out w2 a2 c2 h2)
      have HB2 : Hid (Below w.heap.size w w2) := HB.out.trans (h2.out.2.mono (by have := HB.out.size; omega))
      clear HA2 HCO h2 c0 c1 l0
      by_cases hM0 : M = 0
      · have HF := Lib.hid (HRES0.out w2 hM0)
        have tM : ((M : Int) == 0) = true := by simp; omega
        clear hM0
        go_wp2_with fail
        go_ret2
        obtain ⟨a3, c3, e3, hf3⟩ := HF.out
        exact ⟨a3, c3, e3, hf3, HB2.out⟩
      · have tM : ((M : Int) == 0) = false := by simp; omega
        have hMp : 0 < M := by omega
        clear hM0
        go_wp2_with fail
        refine HCC.out.mono ?_
        rintro e w3 ⟨a3, c3, rfl, h3⟩
        have HF := Lib.hid (HRES.out a3 c3 w3 h3.out.1 hMp)
        clear HCC
        go_wp2_with fail
        go_ret2
        obtain ⟨a4, c4, e4, hf4⟩ := HF.out
        exact ⟨a4, c4, e4, hf4, h3.out.2⟩
end Go.Proofs.Ytalhiedbhcklgaa.U
