/-
  slices.Insert whole; slices.Replace of one piece by two.
-/
import Derived.Test.YtndlebopfojjeaaPSl
namespace Go.Proofs.Ytndlebopfojjeaa.U
open Go.RowKit
set_option linter.unusedVariables false
set_option linter.unusedSimpArgs false
set_option maxRecDepth 100000

/-- it lies where it lay, or is new -/
def Near (w : World) (v v' : Value) : Prop := v'.ownBlock = v.ownBlock ∨ ∀ k, v'.ownBlock = some k → w.heap.size ≤ k
def own1 (v : Value) (k : Nat) : Prop := some k = v.ownBlock

theorem insert_any (a : Option Addr) (n cap i gv : Nat) (p : Pc) (ps : List Pc) (w : World) (h : w.ownsRow 0 105 3 (.slice a n cap) n (flatP ps)) (hv : w.heap[gv]? = some (.cells p.cells.toArray 105 (0, 0)))
    (hgv : ∀ k, (Value.slice a n cap).ownBlock = some k → gv ≠ k) (hi : i ≤ n) (hn : n ≤ 1073741823) :
    Calls Try.prog 71 #[.slice a n cap, .int .i64 i, .slice (some ⟨gv, 0, none⟩) 1 1] w fun e w' => ∃ v', e = .returned v' ∧
      w'.ownsRow 0 105 3 v' (n + 1) (flatP (ps.take i ++ p :: ps.drop i)) ∧ Fr (own1 (.slice a n cap)) w w' ∧ Near w (.slice a n cap) v' := by
  have hpl : ps.length = n := by have := h.1; rw [flatP_len] at this; omega
  by_cases e : i = n
  · subst e
    refine (insert_end a i cap gv p ps 0 w h hv (Nat.zero_le _) (by omega)).mono ?_
    rintro e w' ⟨v', rfl, h1, h2, h3⟩
    refine ⟨v', rfl, ?_, h2, ?_⟩
    · rw [List.take_of_length_le (by omega), List.drop_eq_nil_of_le (by omega)]; exact h1
    · rcases h3 with h3 | h3
      · exact .inl h3
      · exact .inr (fun k hk => by rw [h3] at hk; cases hk; exact Nat.le_refl _)
  · obtain ⟨g, rfl⟩ := own_some h (by omega)
    by_cases hc : n + 1 ≤ cap
    · refine (insert_mid g n cap i gv p ps 0 w h hv (by omega) hc hn (hgv g rfl)).mono ?_
      rintro e w' ⟨v', rfl, h1, h2, h3⟩
      exact ⟨v', rfl, h1, h2.mono (fun x _ hx => by subst hx; rfl), .inl h3⟩
    · refine (insert_new g n cap i gv p ps 0 w h hv (by omega) (by omega) hn).mono ?_
      rintro e w' ⟨v', rfl, h1, h2⟩
      exact ⟨v', rfl, own_mono h1 (Nat.zero_le _), Fr.of_below _ h2, .inr (fun k hk => (h1.lt k hk).1)⟩

theorem two_len (x y : Pc) : (flatP [x, y]).length = 6 := by rw [flatP_len]; rfl
theorem two_min (a b : Nat) (h : 2 ≤ b) : Nat.min 2 b = 2 := Nat.min_eq_left h

set_option maxHeartbeats 2000000 in
/-- the last one -/
theorem replace_end (g n cap i gv : Nat) (x y : Pc) (ps : List Pc) (w : World) (h : w.ownsRow 0 105 3 (.slice (some ⟨g, 0, none⟩) n cap) n (flatP ps)) (hv : w.heap[gv]? = some (.cells (flatP [x, y]).toArray 105 (0, 0))) (hi : i + 1 = n) (hn : n ≤ 1073741823) :
    Calls Try.prog 79 #[.slice (some ⟨g, 0, none⟩) n cap, .int .i64 i, .int .i64 n, .slice (some ⟨gv, 0, none⟩) 2 2] w fun e w' => ∃ v', e = .returned v' ∧
      w'.ownsRow 0 105 3 v' (n + 1) (flatP (ps.take i ++ x :: y :: ps.drop (i + 1))) ∧ Fr (own1 (.slice (some ⟨g, 0, none⟩) n cap)) w w' ∧ Near w (.slice (some ⟨g, 0, none⟩) n cap) v' := by
  obtain ⟨i0, hi0, hz0, hz1, hz2⟩ := info_parts infoP
  obtain ⟨cur, hg, hcl, htake, hnc, hcm, hB, -⟩ := own_cur h
  have hcm' : cap ≤ 9223372036854775807 := by unfold maxLen at hcm; omega
  have hpl : ps.length = n := by have := h.1; rw [flatP_len] at this; omega
  have h0 := own_of (B := 0) (n := i) (cap := cap) (size := 3) hg (Nat.zero_le _) (by omega) hcm (by rw [List.size_toArray, hcl])
  rw [show cur.toArray.toList.take (i * 3) = flatP (ps.take i) from by rw [← flatP_take, ← htake, List.take_take, Nat.min_eq_left (by omega)]] at h0
  obtain ⟨v', w', hrun, hown, hf, hb⟩ := run_append_own_k (P := Try.prog) w 0 97 105 i0 _ 3 24 Try.underlying97 hi0 hz0 hz1 hz2 rfl (by decide) (.slice (some ⟨g, 0, none⟩) i cap) i (flatP (ps.take i)) h0 (some ⟨gv, 0, none⟩) 2 2 (flatP [x, y]) rfl
    (fun _ => ⟨_, rfl, fun j u hu => by rw [add_lit, cell_row hv]; simpa using hu⟩) (flatP_one1 _) (by unfold maxLen; omega) (by omega) (Nat.zero_le _)
  have hvs : ∃ a' c', v' = .slice a' (i + 2) c' := own_slice hown
  obtain ⟨a', c', rfl⟩ := hvs
  have hx : flatP (ps.take i) ++ flatP [x, y] = flatP (ps.take i ++ x :: y :: ps.drop (i + 1)) := by
    rw [List.drop_eq_nil_of_le (by omega), ← flatP_append]
  rw [hx] at hown
  have HO := Lib.hid hown
  have HF := Lib.hid hf
  have HB : Hid (Near w (.slice (some ⟨g, 0, none⟩) n cap) (.slice a' (i + 2) c')) := by
    rcases hb with hb | hb
    · exact .inl hb
    · exact .inr (fun k hk => by rw [hb] at hk; cases hk; exact Nat.le_refl _)
  have HRUN := Lib.hid hrun
  have hic : i ≤ cap := by omega
  have hne1 : ¬ (cap = i) := by omega
  have hin : i ≤ n := by omega
  have hii : ((i : Int) == (n : Int)) = false := by simp; omega
  have hlt : ¬ ((i : Int) + 2 < n) := by omega
  have HI := Lib.hid hi
  clear hg hcl htake hpl h0 hrun hown hf hb hx h hv hi
  go_enter Try.func79, Try.ntmps79
  go_wp2_with (at_builtin; go_must (with_reducible refine Lib.wpList_append_run _ rfl _ _ _ _ rfl _ _ rfl rfl _ _ (HRUN.out _) ?_))
  go_ret
  refine ⟨_, rfl, ?_, HF.out, HB.out⟩
  have := HO.out
  rw [show i + 2 = n + 1 from by have := HI.out; omega] at this ⊢
  exact this

theorem runs_new (g n cap i gv : Nat) (x y : Pc) (ps : List Pc) (w : World) (h : w.ownsRow 0 105 3 (.slice (some ⟨g, 0, none⟩) n cap) n (flatP ps)) (hv : w.heap[gv]? = some (.cells (flatP [x, y]).toArray 105 (0, 0))) (hi : i + 1 < n) (hc : cap < n + 1) (hn : n ≤ 1073741822) :
    ∃ w1 w2 w3 c1, (∀ ty, (Builtin.append_ #[97, 3] ty #[.slice (some ⟨g, 0, none⟩) i cap, .int .i64 ((n : Int) + 1 - (i : Int))]).run Try.prog w = .ok (.slice (some ⟨w.heap.size, 0, none⟩) (n + 1) c1) w1) ∧
      (∀ ty, (Builtin.copy_ #[97, 97] ty #[.slice (some ⟨w.heap.size, i * 3, none⟩) (n + 1 - i) (c1 - i), .slice (some ⟨gv, 0, none⟩) 2 2]).run Try.prog w1 = .ok (goInt (Nat.min 2 (n + 1 - i))) w2) ∧
      (∀ ty, (Builtin.copy_ #[97, 97] ty #[.slice (some ⟨w.heap.size, (i + 2) * 3, none⟩) (n + 1 - (i + 2)) (c1 - (i + 2)), .slice (some ⟨g, (i + 1) * 3, none⟩) (n - (i + 1)) (cap - (i + 1))]).run Try.prog w2.drew = .ok (goInt (Nat.min (n - (i + 1)) (n + 1 - (i + 2)))) w3) ∧
      n + 1 ≤ c1 ∧ c1 ≤ maxLen ∧ w3.ownsRow w.heap.size 105 3 (.slice (some ⟨w.heap.size, 0, none⟩) (n + 1) c1) (n + 1) (flatP (ps.take i ++ x :: y :: ps.drop (i + 1))) ∧ Below w.heap.size w w3 := by
  obtain ⟨cur, hg, hcl, htake, hnc, hcm, hB, -⟩ := own_cur h
  have hpl : ps.length = n := by have := h.1; rw [flatP_len] at this; omega
  have e6 := two_len x y
  have hgl := heap_lt hg
  have hvl := heap_lt hv
  obtain ⟨w1, c1, L, hrun, hg1, hL, hLt, hc1, hcm1, hb1⟩ := run_zeros_new w g i (n + 1 - i) cap cur hg hcl (by omega) (by omega) (by omega)
  rw [show i + (n + 1 - i) = n + 1 from by omega] at hrun hc1
  have hg1' : w1.heap[g]? = some (.cells cur.toArray 105 (0, 0)) := (hb1.block g hgl).trans hg
  have hv1' : w1.heap[gv]? = some (.cells (flatP [x, y]).toArray 105 (0, 0)) := (hb1.block gv hvl).trans hv
  obtain ⟨w2, hrun2, hg2, hf2⟩ := run_copy_any (P := Try.prog) w1 97 97 105 3 Try.underlying97 szP (some ⟨w.heap.size, i * 3, none⟩) (some ⟨gv, 0, none⟩) (n + 1 - i) (c1 - i) 2 2 w.heap.size (i * 3) L 105 hg1 (flatP [x, y])
    (by rw [e6, two_min 0 _ (by omega)]) (fun _ => ⟨rfl, _, rfl, fun j u hu => by rw [add_lit, cell_row hv1']; simpa using hu⟩) (by rw [hL, e6]; omega) (flatP_one1 _)
  have hg2' : w2.heap[g]? = some (.cells cur.toArray 105 (0, 0)) := (hf2.block g (by have := hb1.size; omega) (by omega)).trans hg1'
  obtain ⟨w3, hrun3, hg3, hf3⟩ := run_copy_any (P := Try.prog) w2.drew 97 97 105 3 Try.underlying97 szP (some ⟨w.heap.size, (i + 2) * 3, none⟩) (some ⟨g, (i + 1) * 3, none⟩) (n + 1 - (i + 2)) (c1 - (i + 2)) (n - (i + 1)) (cap - (i + 1)) w.heap.size ((i + 2) * 3) (splice L (i * 3) (flatP [x, y])) 105 hg2 (flatP (ps.drop (i + 1)))
    (by rw [news_len hpl, show Nat.min (n - (i + 1)) (n + 1 - (i + 2)) = n - (i + 1) from Nat.min_eq_left (by omega)]) (fun _ => ⟨rfl, _, rfl, by
      rw [← flatP_drop, ← htake, List.drop_take]
      exact src_of (w := w2.drew) hg2' _ _⟩) (by rw [news_len hpl, length_splice _ _ _ (by rw [hL, e6]; omega), hL]; omega) (flatP_one1 _)
  have hfin : (splice (splice L (i * 3) (flatP [x, y])) ((i + 2) * 3) (flatP (ps.drop (i + 1)))).take ((n + 1) * 3) = flatP (ps.take i ++ x :: y :: ps.drop (i + 1)) := by
    have hX : L.take (i * 3) = flatP (ps.take i) := by rw [hLt, ← flatP_take, ← htake, List.take_take, Nat.min_eq_left (by omega)]
    have := sp_new (V := flatP [x, y]) (Y := flatP (ps.drop (i + 1))) hX (by rw [e6, news_len hpl, hL]; omega)
    rw [e6, news_len hpl, show i * 3 + 6 = (i + 2) * 3 from by omega, show (i + 2) * 3 + (n - (i + 1)) * 3 = (n + 1) * 3 from by omega] at this
    rw [this]
    simp [flatP]
  have hlen3 : (splice (splice L (i * 3) (flatP [x, y])) ((i + 2) * 3) (flatP (ps.drop (i + 1)))).length = c1 * 3 := by
    rw [length_splice _ _ _ (by rw [news_len hpl, length_splice _ _ _ (by rw [hL, e6]; omega), hL]; omega), length_splice _ _ _ (by rw [hL, e6]; omega), hL]
  have h3 := own_of (B := w.heap.size) (n := n + 1) (cap := c1) (size := 3) hg3 (Nat.le_refl _) hc1 hcm1 (by rw [List.size_toArray]; exact hlen3)
  rw [show ((splice (splice L (i * 3) (flatP [x, y])) ((i + 2) * 3) (flatP (ps.drop (i + 1)))).toArray.toList.take ((n + 1) * 3)) = flatP (ps.take i ++ x :: y :: ps.drop (i + 1)) from hfin] at h3
  have hbb : Below w.heap.size w w3 := by
    have h := ((Fr.of_below (fun _ => False) hb1).trans hf2 (fun x hx e => absurd e (by omega))).drew.trans hf3 (fun x hx e => absurd e (by omega))
    exact h.below0
  have hw4 : (n : Int) + 1 - (i : Int) = ((n + 1 - i : Nat) : Int) := by omega
  rw [← hw4] at hrun
  exact ⟨w1, w2, w3, c1, hrun, hrun2, hrun3, hc1, hcm1, h3, hbb⟩

set_option maxHeartbeats 4000000 in
theorem replace_new (g n cap i gv : Nat) (x y : Pc) (ps : List Pc) (w : World) (h : w.ownsRow 0 105 3 (.slice (some ⟨g, 0, none⟩) n cap) n (flatP ps)) (hv : w.heap[gv]? = some (.cells (flatP [x, y]).toArray 105 (0, 0))) (hi : i + 1 < n) (hc : cap < n + 1) (hn : n ≤ 1073741822) :
    Calls Try.prog 79 #[.slice (some ⟨g, 0, none⟩) n cap, .int .i64 i, .int .i64 ((i : Int) + 1), .slice (some ⟨gv, 0, none⟩) 2 2] w fun e w' => ∃ v', e = .returned v' ∧
      w'.ownsRow w.heap.size 105 3 v' (n + 1) (flatP (ps.take i ++ x :: y :: ps.drop (i + 1))) ∧ Below w.heap.size w w' := by
  obtain ⟨cur, hg, hcl, htake, hnc, hcm, hB, -⟩ := own_cur h
  have hcm' : cap ≤ 9223372036854775807 := by unfold maxLen at hcm; omega
  have HK : Hid (∀ q, _) := fun q => runs_new g n cap i gv x y ps (w.drewN q) h hv hi hc hn
  have hne0 : ¬ (cap = i + 1) := by omega
  have hne1 : ¬ (cap = i) := by omega
  have hw1 : IntKind.i64.wrap ((i : Int) + 1) = (i : Int) + 1 := by rw [IntKind.wrap_i64]; omega
  have hw2 : (0 : Int) ≤ (i : Int) + 1 := by omega
  have hw3 : ((i : Int) + 1).toNat = i + 1 := by omega
  have hw5 : IntKind.i64.wrap ((i : Int) + 2) = (i : Int) + 2 := by rw [IntKind.wrap_i64]; omega
  have hw6 : (0 : Int) ≤ (i : Int) + 2 := by omega
  have hw7 : ((i : Int) + 2).toNat = i + 2 := by omega
  have hin : i ≤ n := by omega
  have hic : i ≤ cap := by omega
  clear hg hcl htake h hv
  go_enter Try.func79, Try.ntmps79
  go_wp2_with fail
  go_quiet (fail)
  obtain ⟨w1, w2, w3, c1, hrun, hrun2, hrun3, hc1, hcm1, h3, hbb⟩ := HK.out nq
  rw [show (w.drewN nq).heap.size = w.heap.size from rfl] at hrun hrun2 hrun3 h3 hbb
  have H3 := Lib.hid h3
  have HBB : Hid (Below w.heap.size w w3) := ⟨hbb.os, hbb.tape, hbb.output, hbb.size, hbb.block⟩
  have HRUN := Lib.hid hrun
  have HRUN2 := Lib.hid hrun2
  have HRUN3 := Lib.hid hrun3
  have hne2 : ¬ (c1 = i) := by omega
  have hne3 : ¬ (c1 = i + 2) := by omega
  have hin2 : (i : Int) + 2 ≤ (n : Int) + 1 := by omega
  have hcap : (cap : Int) < (n : Int) + 1 := by omega
  have hin3 : (i : Int) + 1 ≤ (n : Int) := by omega
  rw [show (i : Int) + 2 + ((n - (i + 1) : Nat) : Int) = (n : Int) + 1 from by omega]
  clear hrun hrun2 hrun3 h3 hbb
  go_wp2_with (first | (at_builtin; go_must (with_reducible refine Lib.wpList_append_run _ rfl _ _ _ _ rfl _ _ rfl rfl _ _ (HRUN.out _) ?_)) | (with_reducible refine wpList_copy_run _ rfl _ _ _ _ rfl _ _ rfl rfl (HRUN2.out _) ?_))
  go_region_law (refine step_copy_run rfl (.tmp 78) (.tmp 81) _ _ rfl _ _ (by simp [Act.eval, Act.put]) (by simp [Act.eval, Act.put]) (HRUN3.out _) ?_)
  go_wp2_with fail
  go_ret
  exact ⟨_, rfl, H3.out, HBB.out⟩

theorem overl2 (w : World) (gv g off m vc lb cb : Nat) (hne : gv ≠ g) (cv cg : Array Value) (hv : w.heap[gv]? = some (.cells cv 105 (0, 0))) (hg : w.heap[g]? = some (.cells cg 105 (0, 0))) (hp : cg.size ≠ 0) :
    (callFunc 80 #[.slice (some ⟨gv, off, none⟩) m vc, .slice (some ⟨g, 0, none⟩) lb cb]).run Try.prog w = .ok (.value (.bool false)) w := by
  rw [run_callFunc_extern Try.func80 (by kernel_rfl) (by kernel_rfl) (by kernel_rfl) (e := Extern.SlicesOverlaps.overlaps #[97, 97] #[4]) (by kernel_rfl),
    Lib.run_overlaps_apart w 97 4 105 Try.underlying97 3 (by intro w; kernel_rfl) ⟨gv, off, none⟩ ⟨g, 0, none⟩ m vc lb cb hne 105 105 cv.size cg.size (by simp [World.shape?, hv]) (by simp [World.shape?, hg]) hp (frozen_row hv _) (frozen_row hv _)]
  rfl

set_option maxHeartbeats 4000000 in
theorem replace_mid (g n cap i gv : Nat) (x y : Pc) (ps : List Pc) (w : World) (h : w.ownsRow 0 105 3 (.slice (some ⟨g, 0, none⟩) n cap) n (flatP ps)) (hv : w.heap[gv]? = some (.cells (flatP [x, y]).toArray 105 (0, 0))) (hi : i + 1 < n) (hc : n + 1 ≤ cap) (hn : n ≤ 1073741822) (hgv : gv ≠ g) :
    Calls Try.prog 79 #[.slice (some ⟨g, 0, none⟩) n cap, .int .i64 i, .int .i64 ((i : Int) + 1), .slice (some ⟨gv, 0, none⟩) 2 2] w fun e w' => ∃ v', e = .returned v' ∧
      w'.ownsRow 0 105 3 v' (n + 1) (flatP (ps.take i ++ x :: y :: ps.drop (i + 1))) ∧ Fr (· = g) w w' ∧ v'.ownBlock = some g := by
  obtain ⟨cur, hg, hcl, htake, hnc, hcm, hB, -⟩ := own_cur h
  have hcm' : cap ≤ 9223372036854775807 := by unfold maxLen at hcm; omega
  have hpl : ps.length = n := by have := h.1; rw [flatP_len] at this; omega
  have e6 := two_len x y
  have HK : Hid (∀ q, ∃ w1 w2, (∀ ty, (Builtin.copy_ #[97, 97] ty #[.slice (some ⟨g, (i + 2) * 3, none⟩) (n - (i + 1)) (cap - (i + 2)), .slice (some ⟨g, (i + 1) * 3, none⟩) (n - (i + 1)) (cap - (i + 1))]).run Try.prog (w.drewN q).drew = .ok (goInt (Nat.min (n - (i + 1)) (n - (i + 1)))) w1) ∧
      (∀ ty, (Builtin.copy_ #[97, 97] ty #[.slice (some ⟨g, i * 3, none⟩) (n + 1 - i) (cap - i), .slice (some ⟨gv, 0, none⟩) 2 2]).run Try.prog w1 = .ok (goInt (Nat.min 2 (n + 1 - i))) w2) ∧
      w2.ownsRow 0 105 3 (.slice (some ⟨g, 0, none⟩) (n + 1) cap) (n + 1) (flatP (ps.take i ++ x :: y :: ps.drop (i + 1))) ∧ Fr (· = g) w w2) := by
    intro q
    obtain ⟨w1, hrun1, hg1, hf1⟩ := run_copy_any (P := Try.prog) (w.drewN q).drew 97 97 105 3 Try.underlying97 szP (some ⟨g, (i + 2) * 3, none⟩) (some ⟨g, (i + 1) * 3, none⟩) (n - (i + 1)) (cap - (i + 2)) (n - (i + 1)) (cap - (i + 1)) g ((i + 2) * 3) cur 105 hg (flatP (ps.drop (i + 1)))
      (by rw [news_len hpl, show Nat.min (n - (i + 1)) (n - (i + 1)) = n - (i + 1) from Nat.min_self _]) (fun _ => ⟨rfl, _, rfl, by
        rw [← flatP_drop, ← htake, List.drop_take]
        exact src_of (w := (w.drewN q).drew) hg _ _⟩) (by rw [news_len hpl, hcl]; omega) (flatP_one1 _)
    have hv1 : w1.heap[gv]? = some (.cells (flatP [x, y]).toArray 105 (0, 0)) := (hf1.block gv (heap_lt hv) hgv).trans hv
    have hcl1 : (splice cur ((i + 2) * 3) (flatP (ps.drop (i + 1)))).length = cap * 3 := by rw [length_splice _ _ _ (by rw [news_len hpl, hcl]; omega), hcl]
    obtain ⟨w2, hrun2, hg2, hf2⟩ := run_copy_any (P := Try.prog) w1 97 97 105 3 Try.underlying97 szP (some ⟨g, i * 3, none⟩) (some ⟨gv, 0, none⟩) (n + 1 - i) (cap - i) 2 2 g (i * 3) (splice cur ((i + 2) * 3) (flatP (ps.drop (i + 1)))) 105 hg1 (flatP [x, y])
      (by rw [e6, two_min 0 _ (by omega)]) (fun _ => ⟨rfl, _, rfl, fun j u hu => by rw [add_lit, cell_row hv1]; simpa using hu⟩) (by rw [hcl1, e6]; omega) (flatP_one1 _)
    have hfin : (splice (splice cur ((i + 2) * 3) (flatP (ps.drop (i + 1)))) (i * 3) (flatP [x, y])).take ((n + 1) * 3) = flatP (ps.take i ++ x :: y :: ps.drop (i + 1)) := by
      have := sp_in (L := cur) (V := flatP [x, y]) (Y := flatP (ps.drop (i + 1))) (a := i * 3) (by rw [e6, news_len hpl, hcl]; omega)
      rw [e6, news_len hpl, show i * 3 + 6 = (i + 2) * 3 from by omega, show (i + 2) * 3 + (n - (i + 1)) * 3 = (n + 1) * 3 from by omega] at this
      rw [this, flatP_append, ← flatP_take, ← htake, List.take_take, Nat.min_eq_left (by omega)]
      simp [flatP]
    have h2 := own_of (B := 0) (n := n + 1) (cap := cap) (size := 3) hg2 (Nat.zero_le _) hc hcm (by rw [List.size_toArray, length_splice _ _ _ (by rw [hcl1, e6]; omega), hcl1])
    rw [show ((splice (splice cur ((i + 2) * 3) (flatP (ps.drop (i + 1)))) (i * 3) (flatP [x, y])).toArray.toList.take ((n + 1) * 3)) = flatP (ps.take i ++ x :: y :: ps.drop (i + 1)) from hfin] at h2
    refine ⟨w1, w2, hrun1, hrun2, h2, ?_⟩
    have h0 : Fr (· = g) w (w.drewN q).drew := ⟨rfl, rfl, rfl, Nat.le_refl _, fun _ _ _ => rfl⟩
    exact (h0.trans hf1 (fun _ _ h => h)).trans hf2 (fun _ _ h => h)
  have HOV : Hid (∀ q, _) := fun q => overl2 (w.drewN q) g gv ((i + 2) * 3) (n - (i + 1)) (cap - (i + 2)) 2 2 (Ne.symm hgv) _ _ hg hv (by rw [List.size_toArray, e6]; omega)
  have hne0 : ¬ (cap = i + 1) := by omega
  have hne1 : ¬ (cap = i) := by omega
  have hne3 : ¬ (cap = i + 2) := by omega
  have hw1 : IntKind.i64.wrap ((i : Int) + 1) = (i : Int) + 1 := by rw [IntKind.wrap_i64]; omega
  have hw2 : (0 : Int) ≤ (i : Int) + 1 := by omega
  have hw3 : ((i : Int) + 1).toNat = i + 1 := by omega
  have hw5 : IntKind.i64.wrap ((i : Int) + 2) = (i : Int) + 2 := by rw [IntKind.wrap_i64]; omega
  have hw6 : (0 : Int) ≤ (i : Int) + 2 := by omega
  have hw7 : ((i : Int) + 2).toNat = i + 2 := by omega
  have hin : i ≤ n := by omega
  have hic : i ≤ cap := by omega
  have hin3 : (i : Int) + 1 ≤ (n : Int) := by omega
  have hin2 : (i : Int) + 2 ≤ (n : Int) + 1 := by omega
  have hle : ¬ ((i : Int) + 2 ≤ (i : Int) + 1) := by omega
  clear hg hcl htake h hv hpl e6
  go_enter Try.func79, Try.ntmps79
  go_wp2_with fail
  go_quiet (fail)
  obtain ⟨w1, w2, hrun, hrun2, h3, hff⟩ := HK.out nq
  have hov := HOV.out nq
  have H3 := Lib.hid h3
  have HFF := Lib.hid hff
  have HRUN := Lib.hid hrun
  have HRUN2 := Lib.hid hrun2
  rw [show (i : Int) + 2 + ((n - (i + 1) : Nat) : Int) = (n : Int) + 1 from by omega]
  clear hrun hrun2 h3 hff
  go_wp2_with (simp only [hov])
  go_region_law (refine step_copy_run rfl (.tmp 126) (.tmp 129) _ _ rfl _ _ (by simp [Act.eval, Act.put]) (by simp [Act.eval, Act.put]) (HRUN.out _) ?_)
  go_wp2_with (with_reducible refine wpList_copy_run _ rfl _ _ _ _ rfl _ _ rfl rfl (HRUN2.out _) ?_)
  go_ret
  exact ⟨_, rfl, H3.out, HFF.out, rfl⟩

theorem replace_any (a : Option Addr) (n cap i gv : Nat) (x y : Pc) (ps : List Pc) (w : World) (h : w.ownsRow 0 105 3 (.slice a n cap) n (flatP ps)) (hv : w.heap[gv]? = some (.cells (flatP [x, y]).toArray 105 (0, 0)))
    (hgv : ∀ k, (Value.slice a n cap).ownBlock = some k → gv ≠ k) (hi : i < n) (hn : n ≤ 1073741822) :
    Calls Try.prog 79 #[.slice a n cap, .int .i64 i, .int .i64 ((i : Int) + 1), .slice (some ⟨gv, 0, none⟩) 2 2] w fun e w' => ∃ v', e = .returned v' ∧
      w'.ownsRow 0 105 3 v' (n + 1) (flatP (ps.take i ++ x :: y :: ps.drop (i + 1))) ∧ Fr (own1 (.slice a n cap)) w w' ∧ Near w (.slice a n cap) v' := by
  obtain ⟨g, rfl⟩ := own_some h (by omega)
  by_cases e : i + 1 = n
  · have h2 := replace_end g n cap i gv x y ps w h hv e (by omega)
    rw [show ((n : Nat) : Int) = (i : Int) + 1 from by omega] at h2
    exact h2
  · by_cases hc : n + 1 ≤ cap
    · refine (replace_mid g n cap i gv x y ps w h hv (by omega) hc hn (hgv g rfl)).mono ?_
      rintro e w' ⟨v', rfl, h1, h2, h3⟩
      exact ⟨v', rfl, h1, h2.mono (fun x _ hx => by subst hx; rfl), .inl h3⟩
    · refine (replace_new g n cap i gv x y ps w h hv (by omega) (by omega) hn).mono ?_
      rintro e w' ⟨v', rfl, h1, h2⟩
      exact ⟨v', rfl, own_mono h1 (Nat.zero_le _), Fr.of_below _ h2, .inr (fun k hk => (h1.lt k hk).1)⟩
end Go.Proofs.Ytndlebopfojjeaa.U
