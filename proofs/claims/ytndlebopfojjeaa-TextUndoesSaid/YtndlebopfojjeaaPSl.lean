/-
  The library's Insert, Delete, Replace at slices of pieces that the call owns; Clone of a slice of runes.
-/
import Derived.Test.YtndlebopfojjeaaPLeaf
import Derived.Deep.RegionLaw
import Derived.Deep.QuietTactic
import Derived.BigQuiet
namespace Go.Proofs.Ytndlebopfojjeaa.U
open Go.RowKit
set_option linter.unusedVariables false
set_option linter.unusedSimpArgs false
set_option maxRecDepth 100000

theorem own_cur {w : World} {B : Nat} {e : TypeId} {size g n cap m : Nat} {xs : List Value} (h : w.ownsRow B e size (.slice (some ⟨g, 0, none⟩) n cap) m xs) :
    ∃ cur : List Value, w.heap[g]? = some (.cells cur.toArray e (0, 0)) ∧ cur.length = cap * size ∧ cur.take (n * size) = xs ∧ n ≤ cap ∧ cap ≤ maxLen ∧ B ≤ g ∧ m = n := by
  rcases h.2 with ⟨h', _⟩ | ⟨g', cap', cur, h', hb, hg, hnc, hcm, hcs, htake⟩
  · simp at h'
  · simp only [Value.slice.injEq, Option.some.injEq, Addr.mk.injEq, and_true, true_and] at h'
    obtain ⟨rfl, rfl, rfl⟩ := h'
    exact ⟨cur.toList, by simpa using hg, by simpa using hcs, htake, hnc, hcm, hb, rfl⟩
theorem src_of {w : World} {g : Nat} {cur : List Value} {t : TypeId} (h : w.heap[g]? = some (.cells cur.toArray t (0, 0))) (off m : Nat) : ∀ j v, ((cur.drop off).take m)[j]? = some v → w.cell? ((⟨g, off, none⟩ : Addr).add j) = some v := by
  intro j v hv
  rw [add_lit, cell_row h]
  rw [List.getElem?_take] at hv
  split at hv
  · rw [List.getElem?_drop] at hv
    simpa using hv
  · cases hv
theorem mem_one {cur : List Value} (h : ∀ v ∈ cur, v.oneCell' = true) (off m : Nat) : ∀ v ∈ (cur.drop off).take m, v.oneCell' = true := fun v hv => h v (List.mem_of_mem_drop (List.mem_of_mem_take hv))

theorem zeroP (w : World) : (zeroValue 105).run Try.prog w = .ok (.agg #[.bool false, .int .i64 0, .int .i64 0]) w := by kernel_rfl
theorem zero1 (n : Nat) : ∀ v ∈ (Builtin.zeroCells (Value.agg #[.bool false, .int .i64 0, .int .i64 0]).cells n).toList, v.oneCell' = true := by
  intro v hv
  simp only [Builtin.zeroCells, Value.cells, Array.toList_map, List.mem_map] at hv
  obtain ⟨i, _, rfl⟩ := hv
  have h3 : i % (#[Value.bool false, Value.int .i64 0, Value.int .i64 0] : Array Value).size < 3 := Nat.mod_lt _ (by decide)
  generalize i % (#[Value.bool false, Value.int .i64 0, Value.int .i64 0] : Array Value).size = k at h3 ⊢
  match k, h3 with
  | 0, _ => rfl
  | 1, _ => rfl
  | 2, _ => rfl

set_option maxHeartbeats 1000000 in
theorem delete_mid (g n cap i j : Nat) (ps : List Pc) (B : Nat) (w : World) (h : w.ownsRow B 105 3 (.slice (some ⟨g, 0, none⟩) n cap) n (flatP ps)) (hij : i < j) (hj : j ≤ n) (hjc : j < cap) (hn : n ≤ 1073741824) :
    Calls Try.prog 110 #[.slice (some ⟨g, 0, none⟩) n cap, .int .i64 i, .int .i64 j] w fun e w' => e = .returned (.slice (some ⟨g, 0, none⟩) (i + (n - j)) cap) ∧
      w'.ownsRow B 105 3 (.slice (some ⟨g, 0, none⟩) (i + (n - j)) cap) (i + (n - j)) (flatP (ps.take i ++ ps.drop j)) ∧ Fr (· = g) w w' := by
  obtain ⟨cur, hg, hcl, htake, hnc, hcm, hB, -⟩ := own_cur h
  have hcm' : cap ≤ 9223372036854775807 := by unfold maxLen at hcm; omega
  go_enter Try.func110, Try.ntmps110
  have H := Lib.hid h
  have HG := Lib.hid hg
  have HT := Lib.hid htake
  have HCL := Lib.hid hcl
  clear h hg htake hcl
  have hne : ¬ (cap = j) := by omega
  have hic : i ≤ cap := by omega
  obtain ⟨news, hnews⟩ : ∃ news, (cur.drop (j * 3)).take ((n - j) * 3) = news := ⟨_, rfl⟩
  have hnl : news.length = (n - j) * 3 := by rw [← hnews, List.length_take, List.length_drop, HCL.out]; omega
  have hn1 : ∀ v ∈ news, v.oneCell' = true := by
    have e : news = (flatP ps).drop (j * 3) := by
      rw [← hnews, ← HT.out, List.drop_take]
      congr 1
      omega
    rw [e]
    exact fun v hv => flatP_one1 ps v (List.mem_of_mem_drop hv)
  obtain ⟨w1, hrun, hg1, hf1⟩ := run_append_in (P := Try.prog) w.drew 97 105 3 Try.underlying97 szP g i cap cur HG.out (some ⟨g, j * 3, none⟩) (n - j) (cap - j) news hnl
    (fun _ => ⟨_, rfl, by rw [← hnews]; exact src_of (w := w.drew) HG.out _ _⟩) hn1 (by omega) (by rw [hnl, HCL.out]; omega)
  have HRUN := Lib.hid hrun
  have HG1 := Lib.hid hg1
  have HF1 := Lib.hid hf1
  have HNL := Lib.hid hnl
  have HNW := Lib.hid hnews
  clear hrun hg1 hf1 hnl hnews hn1
  go_wp2_with fail
  go_region_law (refine step_append_run rfl (.tmp 22) (.tmp 25) _ _ rfl _ _ (by simp [Act.eval, Act.put]) (by simp [Act.eval, Act.put]) (HRUN.out _) ?_)
  have hcl1 : (splice cur (i * 3) news).length = cap * 3 := by rw [length_splice _ _ _ (by rw [HNL.out, HCL.out]; omega), HCL.out]
  obtain ⟨w2, zs, hrun2, hg2, hzl, hf2⟩ := run_clear_any (P := Try.prog) w1 97 105 _ 3 Try.underlying97 zeroP rfl zero1 g ((i + (n - j)) * 3) (n - (i + (n - j))) (cap - (i + (n - j))) (splice cur (i * 3) news) 105 HG1.out (by rw [hcl1]; omega) (by omega)
  have HRUN2 := Lib.hid hrun2
  have HG2 := Lib.hid hg2
  have HF2 := Lib.hid hf2
  have HZL := Lib.hid hzl
  have HCL1 := Lib.hid hcl1
  clear hrun2 hg2 hf2 hzl hcl1
  go_wp2_with (with_reducible refine wpList_clear_run _ rfl _ _ rfl _ rfl (HRUN2.out _) ?_)
  go_ret
  have hfit : (i + (n - j)) * 3 + zs.length ≤ cap * 3 := by rw [HZL.out]; omega
  refine ⟨rfl, ?_, ?_⟩
  · have h1 := own_of (B := B) (n := i + (n - j)) (cap := cap) (size := 3) HG2.out hB (by omega) hcm (by rw [List.size_toArray, length_splice _ _ _ (by rw [HCL1.out]; exact hfit), HCL1.out])
    have e : (splice (splice cur (i * 3) news) ((i + (n - j)) * 3) zs).take ((i + (n - j)) * 3) = flatP (ps.take i ++ ps.drop j) := by
      rw [splice_low _ _ _ _ (by rw [HCL1.out]; omega) (Nat.le_refl _), show (i + (n - j)) * 3 = i * 3 + news.length from by rw [HNL.out]; omega, splice_take _ _ _ (by rw [HCL.out]; omega), flatP_append, ← flatP_take, ← flatP_drop, ← HT.out, ← HNW.out]
      congr 1
      · rw [List.take_take, Nat.min_eq_left (by omega)]
      · rw [List.drop_take]
        congr 1
        omega
    rw [e] at h1
    exact h1
  · exact ((Fr.refl (· = g) w).drew.trans HF1.out (fun _ _ h => h)).trans HF2.out (fun _ _ h => h)
set_option maxHeartbeats 1000000 in
theorem delete_end (g n cap i j : Nat) (ps : List Pc) (B : Nat) (w : World) (h : w.ownsRow B 105 3 (.slice (some ⟨g, 0, none⟩) n cap) n (flatP ps)) (hij : i < j) (hj : j ≤ n) (hjc : (cap = j) = True) (hn : n ≤ 1073741824) :
    Calls Try.prog 110 #[.slice (some ⟨g, 0, none⟩) n cap, .int .i64 i, .int .i64 j] w fun e w' => e = .returned (.slice (some ⟨g, 0, none⟩) i cap) ∧
      w'.ownsRow B 105 3 (.slice (some ⟨g, 0, none⟩) i cap) i (flatP (ps.take i)) ∧ Fr (· = g) w w' := by
  obtain ⟨cur, hg, hcl, htake, hnc, hcm, hB, -⟩ := own_cur h
  have hcm' : cap ≤ 9223372036854775807 := by unfold maxLen at hcm; omega
  have HJC2 : Hid (cap = j) := by show cap = j; simpa using hjc
  have hnj : n ≤ j := by have := HJC2.out; omega
  go_enter Try.func110, Try.ntmps110
  have H := Lib.hid h
  have HG := Lib.hid hg
  have HT := Lib.hid htake
  have HCL := Lib.hid hcl
  clear h hg htake hcl
  have hic : i ≤ cap := by omega
  obtain ⟨w1, hrun, hg1, hf1⟩ := run_append_in (P := Try.prog) w.drew 97 105 3 Try.underlying97 szP g i cap cur HG.out (some ⟨g, 0, none⟩) 0 (cap - j) [] rfl (fun h => by cases h) (by simp) (by omega) (by rw [HCL.out]; simp; omega)
  have HRUN := Lib.hid hrun
  have HG1 := Lib.hid hg1
  have HF1 := Lib.hid hf1
  clear hrun hg1 hf1
  go_wp2_with fail
  go_region_law (refine step_append_run rfl (.tmp 22) (.tmp 25) _ _ rfl _ _ (by simp [Act.eval, Act.put]) (by simp [Act.eval, Act.put]) (HRUN.out _) ?_)
  have hcl1 : (splice cur (i * 3) []).length = cap * 3 := by rw [length_splice _ _ _ (by rw [HCL.out]; simp; omega), HCL.out]
  obtain ⟨w2, zs, hrun2, hg2, hzl, hf2⟩ := run_clear_any (P := Try.prog) w1 97 105 _ 3 Try.underlying97 zeroP rfl zero1 g (i * 3) (n - i) (cap - i) (splice cur (i * 3) []) 105 HG1.out (by rw [hcl1]; omega) (by omega)
  have HRUN2 := Lib.hid hrun2
  have HG2 := Lib.hid hg2
  have HF2 := Lib.hid hf2
  have HZL := Lib.hid hzl
  have HCL1 := Lib.hid hcl1
  clear hrun2 hg2 hf2 hzl hcl1
  have hci : ¬ (cap = i) := by omega
  go_wp2_with (with_reducible refine wpList_clear_run _ rfl _ _ rfl _ rfl (HRUN2.out _) ?_)
  go_ret
  have hfit : i * 3 + zs.length ≤ cap * 3 := by rw [HZL.out]; omega
  refine ⟨rfl, ?_, ?_⟩
  · have h1 := own_of (B := B) (n := i) (cap := cap) (size := 3) HG2.out hB hic hcm (by rw [List.size_toArray, length_splice _ _ _ (by rw [HCL1.out]; exact hfit), HCL1.out])
    have e : (splice (splice cur (i * 3) []) (i * 3) zs).take (i * 3) = flatP (ps.take i) := by
      rw [splice_low _ _ _ _ (by rw [HCL1.out]; omega) (Nat.le_refl _), splice_low _ _ _ _ (by rw [HCL.out]; omega) (Nat.le_refl _), ← flatP_take, ← HT.out, List.take_take, Nat.min_eq_left (by omega)]
    rw [e] at h1
    exact h1
  · exact ((Fr.refl (· = g) w).drew.trans HF1.out (fun _ _ h => h)).trans HF2.out (fun _ _ h => h)

theorem own_some {w : World} {B : Nat} {e : TypeId} {s : Nat} {a : Option Addr} {n c m : Nat} {xs : List Value} (h : w.ownsRow B e s (.slice a n c) m xs) (hn : 0 < n) : ∃ g, a = some ⟨g, 0, none⟩ := by
  rcases h.2 with ⟨hv, _⟩ | ⟨g, cap, cur, hv, _⟩
  · simp only [Value.slice.injEq] at hv; omega
  · simp only [Value.slice.injEq] at hv; exact ⟨g, hv.1⟩
theorem delete_any (a : Option Addr) (n cap i j : Nat) (ps : List Pc) (B : Nat) (w : World) (h : w.ownsRow B 105 3 (.slice a n cap) n (flatP ps)) (hij : i < j) (hj : j ≤ n) (hn : n ≤ 1073741824) :
    Calls Try.prog 110 #[.slice a n cap, .int .i64 i, .int .i64 j] w fun e w' => e = .returned (.slice a (i + (n - j)) cap) ∧
      w'.ownsRow B 105 3 (.slice a (i + (n - j)) cap) (i + (n - j)) (flatP (ps.take i ++ ps.drop j)) ∧ Fr (fun k => some k = (Value.slice a n cap).ownBlock) w w' := by
  obtain ⟨g, rfl⟩ := own_some h (by omega)
  have e : (fun k => some k = (Value.slice (some ⟨g, 0, none⟩) n cap).ownBlock) = (· = g) := by funext k; simp [Value.ownBlock]
  rw [e]
  obtain ⟨_, _, _, _, hnc, _⟩ := own_cur h
  by_cases hc : cap = j
  · obtain rfl : n = j := by omega
    have hl : ps.drop n = [] := List.drop_eq_nil_of_le (by have := h.1; rw [flatP_len] at this; omega)
    rw [hl, Nat.sub_self, Nat.add_zero, List.append_nil]
    exact delete_end g n cap i n ps B w h hij hj (eq_true hc) hn
  · exact delete_mid g n cap i j ps B w h hij hj (by omega) hn

/-- append of zeros where there is no room: a new row -/
theorem run_zeros_new (w : World) (g i k cap : Nat) (cur : List Value) (hg : w.heap[g]? = some (.cells cur.toArray 105 (0, 0))) (hcl : cur.length = cap * 3) (hi : i ≤ cap) (hk : cap < i + k) (hs : i + k ≤ 1073741824) :
    ∃ w' c' L, (∀ ty, (Builtin.append_ #[97, 3] ty #[.slice (some ⟨g, 0, none⟩) i cap, .int .i64 (k : Nat)]).run Try.prog w = .ok (.slice (some ⟨w.heap.size, 0, none⟩) (i + k) c') w') ∧
      w'.heap[w.heap.size]? = some (.cells (List.toArray L) 105 (0, 0)) ∧ L.length = c' * 3 ∧ L.take (i * 3) = cur.take (i * 3) ∧ i + k ≤ c' ∧ c' ≤ maxLen ∧ Below w.heap.size w w' := by
  obtain ⟨i0, hi0, hz0, hz1, hz2⟩ := info_parts infoP
  have hol : (cur.take (i * 3)).length = i * i0.size := by rw [List.length_take, hcl, hz1]; omega
  have hold := run_firstCells_some (P := Try.prog) w.drew i0.size i ⟨g, 0, none⟩ i cap (cur.take (i * 3)) hol (fun j v hj => by
    have := src_of (w := w.drew) hg 0 (i * 3) j v (by simpa using hj)
    simpa using this)
  have hnc := nextslicecap_le hk
  have hge := grownCap_ge w (i + k) cap 105
  have hcm := grownCap_le_maxLen w (i + k) cap 105 (by unfold maxLen; omega)
  generalize hc' : grownCap w (i + k) cap 105 = c' at hge hcm
  refine ⟨w.drew.alloc (.cells ((cur.take (i * 3)).toArray ++ Builtin.zeroCells (Value.agg #[.bool false, .int .i64 0, .int .i64 0]).cells k ++ Builtin.zeroCells (Value.agg #[.bool false, .int .i64 0, .int .i64 0]).cells (c' - (i + k))) 105), c', cur.take (i * 3) ++ ((Builtin.zeroCells (Value.agg #[.bool false, .int .i64 0, .int .i64 0]).cells k).toList ++ (Builtin.zeroCells (Value.agg #[.bool false, .int .i64 0, .int .i64 0]).cells (c' - (i + k))).toList), fun ty => ?_, ?_, ?_, ?_, hge, hcm, ((Below.refl _ w).drew.alloc (by simp) _)⟩
  · rw [← hc']
    exact Lib.run_append_grow_zeros w 97 3 ty 105 i0 _ .i64 .i64 Try.underlying97 Try.underlying3 hi0 hz0 (some ⟨g, 0, none⟩) i cap (cur.take (i * 3)) hold k (by omega) (by rw [hz1]; decide) (by omega) (by omega) (by rw [hz2]; omega) (by rw [hz2]; omega)
  · rw [show w.heap.size = w.drew.heap.size from rfl, heap_alloc_new]
    simp
  · simp only [List.length_append, Array.length_toList, size_zeroCells, hol, hz1]
    simp only [Value.cells, List.size_toArray, List.length_cons, List.length_nil]
    omega
  · rw [List.take_append_of_le_length (by rw [List.length_take, hcl]; omega), List.take_take, Nat.min_self]

theorem overl (w : World) (gv g off m vc lb cb : Nat) (hne : gv ≠ g) (cv cg : Array Value) (hv : w.heap[gv]? = some (.cells cv 105 (0, 0))) (hg : w.heap[g]? = some (.cells cg 105 (0, 0))) (hp : cg.size ≠ 0) :
    (callFunc 80 #[.slice (some ⟨gv, 0, none⟩) m vc, .slice (some ⟨g, off, none⟩) lb cb]).run Try.prog w = .ok (.value (.bool false)) w := by
  rw [run_callFunc_extern Try.func80 (by kernel_rfl) (by kernel_rfl) (by kernel_rfl) (e := Extern.SlicesOverlaps.overlaps #[97, 97] #[4]) (by kernel_rfl),
    Lib.run_overlaps_apart w 97 4 105 Try.underlying97 3 (by intro w; kernel_rfl) ⟨gv, 0, none⟩ ⟨g, off, none⟩ m vc lb cb hne 105 105 cv.size cg.size (by simp [World.shape?, hv]) (by simp [World.shape?, hg]) hp (frozen_row hv 0) (frozen_row hv _)]
  rfl

set_option maxHeartbeats 1000000 in
theorem insert_end (a : Option Addr) (n cap gv : Nat) (p : Pc) (ps : List Pc) (B : Nat) (w : World) (h : w.ownsRow B 105 3 (.slice a n cap) n (flatP ps)) (hv : w.heap[gv]? = some (.cells p.cells.toArray 105 (0, 0))) (hB : B ≤ w.heap.size) (hn : n ≤ 1073741824) :
    Calls Try.prog 71 #[.slice a n cap, .int .i64 n, .slice (some ⟨gv, 0, none⟩) 1 1] w fun e w' => ∃ v', e = .returned v' ∧
      w'.ownsRow B 105 3 v' (n + 1) (flatP (ps ++ [p])) ∧ Fr (fun k => some k = (Value.slice a n cap).ownBlock) w w' ∧ (v'.ownBlock = (Value.slice a n cap).ownBlock ∨ v'.ownBlock = some w.heap.size) := by
  obtain ⟨i0, hi0, hz0, hz1, hz2⟩ := info_parts infoP
  obtain ⟨v', w', hrun, hown, hf, hb⟩ := run_append_own_k (P := Try.prog) w B 97 105 i0 _ 3 24 Try.underlying97 hi0 hz0 hz1 hz2 rfl (by decide) (.slice a n cap) n (flatP ps) h (some ⟨gv, 0, none⟩) 1 1 p.cells rfl
    (fun _ => ⟨_, rfl, fun j u hu => by rw [add_lit, cell_row hv]; simpa using hu⟩) (by intro u hu; exact flatP_one1 [p] u (by rw [flatP_one]; exact hu)) (by unfold maxLen; omega) (by omega) hB
  generalize (Value.slice a n cap).ownBlock = ob at hf hb ⊢
  have HRUN := Lib.hid hrun
  have HO := Lib.hid hown
  have HF := Lib.hid hf
  have HB := Lib.hid hb
  have hnc : n ≤ cap := by
    rcases h.2 with ⟨h', _⟩ | ⟨g', cap', cur, h', hb, hg, hnc, hcm, hcs, htake⟩
    · simp only [Value.slice.injEq] at h'; omega
    · simp only [Value.slice.injEq] at h'
      omega
  clear hrun hown hf hb h hv
  go_enter Try.func71, Try.ntmps71
  go_wp2_with (at_builtin; go_must (with_reducible refine Lib.wpList_append_run _ rfl _ _ _ _ rfl _ _ rfl rfl _ _ (HRUN.out _) ?_))
  all_goals
    go_ret
    refine ⟨v', rfl, ?_, HF.out, HB.out⟩
    rw [flatP_append, flatP_one]
    exact HO.out

theorem news_len {n j : Nat} {ps : List Pc} (hn : ps.length = n) : (flatP (ps.drop j)).length = (n - j) * 3 := by rw [flatP_len, List.length_drop, hn]

set_option maxHeartbeats 2000000 in
/-- no room: a new row -/
theorem insert_new (g n cap i gv : Nat) (p : Pc) (ps : List Pc) (B : Nat) (w : World) (h : w.ownsRow B 105 3 (.slice (some ⟨g, 0, none⟩) n cap) n (flatP ps)) (hv : w.heap[gv]? = some (.cells p.cells.toArray 105 (0, 0))) (hi : i < n) (hc : cap < n + 1) (hn : n ≤ 1073741823) :
    Calls Try.prog 71 #[.slice (some ⟨g, 0, none⟩) n cap, .int .i64 i, .slice (some ⟨gv, 0, none⟩) 1 1] w fun e w' => ∃ v', e = .returned v' ∧
      w'.ownsRow w.heap.size 105 3 v' (n + 1) (flatP (ps.take i ++ p :: ps.drop i)) ∧ Below w.heap.size w w' := by
  obtain ⟨cur, hg, hcl, htake, hnc, hcm, hB, -⟩ := own_cur h
  have hpl : ps.length = n := by have := h.1; rw [flatP_len] at this; omega
  have hgl := heap_lt hg
  have hvl := heap_lt hv
  obtain ⟨w1, c1, L, hrun, hg1, hL, hLt, hc1, hcm1, hb1⟩ := run_zeros_new w g i (n + 1 - i) cap cur hg hcl (by omega) (by omega) (by omega)
  rw [show i + (n + 1 - i) = n + 1 from by omega] at hrun hc1
  have hg1' : w1.heap[g]? = some (.cells cur.toArray 105 (0, 0)) := (hb1.block g hgl).trans hg
  have hv1' : w1.heap[gv]? = some (.cells p.cells.toArray 105 (0, 0)) := (hb1.block gv hvl).trans hv
  obtain ⟨w2, hrun2, hg2, hf2⟩ := run_copy_any (P := Try.prog) w1 97 97 105 3 Try.underlying97 szP (some ⟨w.heap.size, i * 3, none⟩) (some ⟨gv, 0, none⟩) (n + 1 - i) (c1 - i) 1 1 w.heap.size (i * 3) L 105 hg1 p.cells
    (by show 3 = Nat.min 1 (n + 1 - i) * 3; rw [show Nat.min 1 (n + 1 - i) = 1 from Nat.min_eq_left (by omega)]) (fun _ => ⟨rfl, _, rfl, fun j u hu => by rw [add_lit, cell_row hv1']; simpa using hu⟩) (by rw [hL]; show i * 3 + 3 ≤ _; omega) (by intro u hu; exact flatP_one1 [p] u (by rw [flatP_one]; exact hu))
  have hg2' : w2.heap[g]? = some (.cells cur.toArray 105 (0, 0)) := (hf2.block g (by have := hb1.size; omega) (by omega)).trans hg1'
  obtain ⟨w3, hrun3, hg3, hf3⟩ := run_copy_any (P := Try.prog) w2.drew 97 97 105 3 Try.underlying97 szP (some ⟨w.heap.size, (i + 1) * 3, none⟩) (some ⟨g, i * 3, none⟩) (n - i) (c1 - (i + 1)) (n - i) (cap - i) w.heap.size ((i + 1) * 3) (splice L (i * 3) p.cells) 105 hg2 (flatP (ps.drop i))
    (by rw [news_len hpl, show Nat.min (n - i) (n - i) = n - i from Nat.min_self _]) (fun _ => ⟨rfl, _, rfl, by
      rw [← flatP_drop, ← htake, List.drop_take]
      exact src_of (w := w2.drew) hg2' _ _⟩) (by rw [news_len hpl, length_splice _ _ _ (by rw [hL]; show i * 3 + 3 ≤ _; omega), hL]; omega) (flatP_one1 _)
  have hfin : (splice (splice L (i * 3) p.cells) ((i + 1) * 3) (flatP (ps.drop i))).take ((n + 1) * 3) = flatP (ps.take i ++ p :: ps.drop i) := by
    have hX : L.take (i * 3) = flatP (ps.take i) := by rw [hLt, ← flatP_take, ← htake, List.take_take, Nat.min_eq_left (by omega)]
    have e3 : p.cells.length = 3 := rfl
    have := sp_new (V := p.cells) (Y := flatP (ps.drop i)) hX (by rw [e3, news_len hpl, hL]; omega)
    rw [e3, news_len hpl, show i * 3 + 3 = (i + 1) * 3 from by omega, show (i + 1) * 3 + (n - i) * 3 = (n + 1) * 3 from by omega] at this
    rw [this, flatP_append, flatP_cons]
  have hlen3 : (splice (splice L (i * 3) p.cells) ((i + 1) * 3) (flatP (ps.drop i))).length = c1 * 3 := by
    rw [length_splice _ _ _ (by rw [news_len hpl, length_splice _ _ _ (by rw [hL]; show i * 3 + 3 ≤ _; omega), hL]; omega), length_splice _ _ _ (by rw [hL]; show i * 3 + 3 ≤ _; omega), hL]
  have h3 := own_of (B := w.heap.size) (n := n + 1) (cap := c1) (size := 3) hg3 (Nat.le_refl _) hc1 hcm1 (by rw [List.size_toArray]; exact hlen3)
  rw [show ((splice (splice L (i * 3) p.cells) ((i + 1) * 3) (flatP (ps.drop i))).toArray.toList.take ((n + 1) * 3)) = flatP (ps.take i ++ p :: ps.drop i) from hfin] at h3
  have hbb : Below w.heap.size w w3 := by
    have h := ((Fr.of_below (fun _ => False) hb1).trans hf2 (fun x hx e => absurd e (by omega))).drew.trans hf3 (fun x hx e => absurd e (by omega))
    exact h.below0
  have H3 := Lib.hid h3
  have HRUN2 := Lib.hid hrun2
  have HRUN3 := Lib.hid hrun3
  have hne1 : ¬ (cap = i) := by omega
  have hne2 : ¬ (c1 = i) := by omega
  have hne3 : ¬ (c1 = i + 1) := by omega
  have hw1 : IntKind.i64.wrap ((i : Int) + 1) = (i : Int) + 1 := by rw [IntKind.wrap_i64]; omega
  have hw2 : (0 : Int) ≤ (i : Int) + 1 := by omega
  have hw3 : ((i : Int) + 1).toNat = i + 1 := by omega
  have hw4 : (n : Int) + 1 - (i : Int) = ((n + 1 - i : Nat) : Int) := by omega
  have hin : i ≤ n := by omega
  have HW4 := Lib.hid hw4
  rw [← hw4] at hrun
  have HRUN := Lib.hid hrun
  clear hg hcl htake hpl hgl hvl hrun hg1 hL hLt hg1' hv1' hrun2 hg2 hf2 hg2' hrun3 hg3 hf3 hfin hlen3 h3 h hv hw4 hb1
  go_enter Try.func71, Try.ntmps71
  go_wp2_with (first | (at_builtin; go_must (with_reducible refine Lib.wpList_append_run _ rfl _ _ _ _ rfl _ _ rfl rfl _ _ (HRUN.out _) ?_)) | (with_reducible refine wpList_copy_run _ rfl _ _ _ _ rfl _ _ rfl rfl (HRUN2.out _) ?_))
  go_region_law (refine step_copy_run rfl (.tmp 50) (.tmp 53) _ _ rfl _ _ (by simp [Act.eval, Act.put]) (by simp [Act.eval, Act.put]) (HRUN3.out _) ?_)
  go_wp2_with fail
  go_ret
  exact ⟨_, rfl, H3.out, hbb⟩

set_option maxHeartbeats 2000000 in
/-- there is room: in place -/
theorem insert_mid (g n cap i gv : Nat) (p : Pc) (ps : List Pc) (B : Nat) (w : World) (h : w.ownsRow B 105 3 (.slice (some ⟨g, 0, none⟩) n cap) n (flatP ps)) (hv : w.heap[gv]? = some (.cells p.cells.toArray 105 (0, 0))) (hi : i < n) (hc : n + 1 ≤ cap) (hn : n ≤ 1073741823) (hgv : gv ≠ g) :
    Calls Try.prog 71 #[.slice (some ⟨g, 0, none⟩) n cap, .int .i64 i, .slice (some ⟨gv, 0, none⟩) 1 1] w fun e w' => ∃ v', e = .returned v' ∧
      w'.ownsRow B 105 3 v' (n + 1) (flatP (ps.take i ++ p :: ps.drop i)) ∧ Fr (· = g) w w' ∧ v'.ownBlock = some g := by
  obtain ⟨cur, hg, hcl, htake, hnc, hcm, hB, -⟩ := own_cur h
  have hcm' : cap ≤ 9223372036854775807 := by unfold maxLen at hcm; omega
  have hpl : ps.length = n := by have := h.1; rw [flatP_len] at this; omega
  have e3 : p.cells.length = 3 := rfl
  obtain ⟨w1, hrun1, hg1, hf1⟩ := run_copy_any (P := Try.prog) w.drew 97 97 105 3 Try.underlying97 szP (some ⟨g, (i + 1) * 3, none⟩) (some ⟨g, i * 3, none⟩) (n - i) (cap - (i + 1)) (n + 1 - i) (cap - i) g ((i + 1) * 3) cur 105 hg (flatP (ps.drop i))
    (by rw [news_len hpl, show Nat.min (n + 1 - i) (n - i) = n - i from Nat.min_eq_right (by omega)]) (fun _ => ⟨rfl, _, rfl, by
      rw [← flatP_drop, ← htake, List.drop_take]
      exact src_of (w := w.drew) hg _ _⟩) (by rw [news_len hpl, hcl]; omega) (flatP_one1 _)
  have hv1 : w1.heap[gv]? = some (.cells p.cells.toArray 105 (0, 0)) := (hf1.block gv (heap_lt hv) hgv).trans hv
  have hcl1 : (splice cur ((i + 1) * 3) (flatP (ps.drop i))).length = cap * 3 := by rw [length_splice _ _ _ (by rw [news_len hpl, hcl]; omega), hcl]
  obtain ⟨w2, hrun2, hg2, hf2⟩ := run_copy_any (P := Try.prog) w1 97 97 105 3 Try.underlying97 szP (some ⟨g, i * 3, none⟩) (some ⟨gv, 0, none⟩) (n + 1 - i) (cap - i) 1 1 g (i * 3) (splice cur ((i + 1) * 3) (flatP (ps.drop i))) 105 hg1 p.cells
    (by show 3 = Nat.min 1 (n + 1 - i) * 3; rw [show Nat.min 1 (n + 1 - i) = 1 from Nat.min_eq_left (by omega)]) (fun _ => ⟨rfl, _, rfl, fun j u hu => by rw [add_lit, cell_row hv1]; simpa using hu⟩) (by rw [hcl1, e3]; omega) (by intro u hu; exact flatP_one1 [p] u (by rw [flatP_one]; exact hu))
  have hfin : (splice (splice cur ((i + 1) * 3) (flatP (ps.drop i))) (i * 3) p.cells).take ((n + 1) * 3) = flatP (ps.take i ++ p :: ps.drop i) := by
    have := sp_in (L := cur) (V := p.cells) (Y := flatP (ps.drop i)) (a := i * 3) (by rw [e3, news_len hpl, hcl]; omega)
    rw [e3, news_len hpl, show i * 3 + 3 = (i + 1) * 3 from by omega, show (i + 1) * 3 + (n - i) * 3 = (n + 1) * 3 from by omega] at this
    rw [this, flatP_append, flatP_cons, ← flatP_take, ← htake, List.take_take, Nat.min_eq_left (by omega)]
  have h2 := own_of (B := B) (n := n + 1) (cap := cap) (size := 3) hg2 hB hc hcm (by rw [List.size_toArray, length_splice _ _ _ (by rw [hcl1, e3]; omega), hcl1])
  rw [show ((splice (splice cur ((i + 1) * 3) (flatP (ps.drop i))) (i * 3) p.cells).toArray.toList.take ((n + 1) * 3)) = flatP (ps.take i ++ p :: ps.drop i) from hfin] at h2
  have hov := overl w gv g ((i + 1) * 3) 1 1 (n - i) (cap - (i + 1)) hgv _ _ hv hg (by rw [List.size_toArray, hcl]; omega)
  have H2 := Lib.hid h2
  have HFF := Lib.hid (((Fr.refl (· = g) w).drew.trans hf1 (fun _ _ h => h)).trans hf2 (fun _ _ h => h))
  have HRUN1 := Lib.hid hrun1
  have HRUN2 := Lib.hid hrun2
  have hne1 : ¬ (cap = i) := by omega
  have hne3 : ¬ (cap = i + 1) := by omega
  have hw1 : IntKind.i64.wrap ((i : Int) + 1) = (i : Int) + 1 := by rw [IntKind.wrap_i64]; omega
  have hw2 : (0 : Int) ≤ (i : Int) + 1 := by omega
  have hw3 : ((i : Int) + 1).toNat = i + 1 := by omega
  have hin : i ≤ n := by omega
  have hin2 : (i : Int) ≤ (n : Int) + 1 := by omega
  clear hg hcl htake hpl hv1 hrun1 hg1 hf1 hcl1 hrun2 hg2 hf2 hfin h2 h hv e3
  go_enter Try.func71, Try.ntmps71
  go_wp2_with (simp only [hov])
  go_region_law (refine step_copy_run rfl (.tmp 73) (.tmp 76) _ _ rfl _ _ (by simp [Act.eval, Act.put]) (by simp [Act.eval, Act.put]) (HRUN1.out _) ?_)
  go_wp2_with (with_reducible refine wpList_copy_run _ rfl _ _ _ _ rfl _ _ rfl rfl (HRUN2.out _) ?_)
  go_ret
  exact ⟨_, rfl, H2.out, HFF.out, rfl⟩
end Go.Proofs.Ytndlebopfojjeaa.U
