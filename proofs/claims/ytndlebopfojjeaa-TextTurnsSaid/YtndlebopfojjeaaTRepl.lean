/-
  slices.Replace at slices of blocks that the call owns.
-/
import Derived.Test.YtndlebopfojjeaaTLeaf
namespace Go.Proofs.Ytndlebopfojjeaa.U
open Go.RowKit
set_option linter.unusedVariables false
set_option linter.unusedSimpArgs false
set_option maxRecDepth 100000

abbrev Blks := List ((Option Addr × Nat) × List Nat)
theorem infoBk : (Try.prog.info? 92).map (fun i => (i.zero, i.size, i.bytes)) = some (some (.agg #[.slice none 0 0, .int .i64 0]), 2, 32) := by kernel_rfl
theorem szBk : (Try.prog.info? 92).map (·.size) = some 2 := by kernel_rfl
theorem zeroBk (w : World) : (zeroValue 92).run Try.prog w = .ok (.agg #[.slice none 0 0, .int .i64 0]) w := by kernel_rfl
theorem zero2 (n : Nat) : ∀ v ∈ (Builtin.zeroCells (Value.agg #[.slice none 0 0, .int .i64 0]).cells n).toList, v.oneCell' = true := by
  intro v hv
  simp only [Builtin.zeroCells, Value.cells, Array.toList_map, List.mem_map] at hv
  obtain ⟨i, _, rfl⟩ := hv
  have h3 : i % (#[Value.slice none 0 0, Value.int .i64 0] : Array Value).size < 2 := Nat.mod_lt _ (by decide)
  generalize i % (#[Value.slice none 0 0, Value.int .i64 0] : Array Value).size = k at h3 ⊢
  match k, h3 with
  | 0, _ => rfl
  | 1, _ => rfl
theorem flatB_dl {n j : Nat} {ps : Blks} (hn : ps.length = n) : (flatB (ps.drop j)).length = (n - j) * 2 := by rw [flatB_len, List.length_drop, hn]

/-- append of zeros where there is no room: a new row -/
theorem run_zerosB (w : World) (g i k cap : Nat) (cur : List Value) (hg : w.heap[g]? = some (.cells cur.toArray 92 (0, 0))) (hcl : cur.length = cap * 2) (hi : i ≤ cap) (hk : cap < i + k) (hs : i + k ≤ 1073741824) :
    ∃ w' c' L, (∀ ty, (Builtin.append_ #[65, 3] ty #[.slice (some ⟨g, 0, none⟩) i cap, .int .i64 (k : Nat)]).run Try.prog w = .ok (.slice (some ⟨w.heap.size, 0, none⟩) (i + k) c') w') ∧
      w'.heap[w.heap.size]? = some (.cells (List.toArray L) 92 (0, 0)) ∧ L.length = c' * 2 ∧ L.take (i * 2) = cur.take (i * 2) ∧ i + k ≤ c' ∧ c' ≤ maxLen ∧ Below w.heap.size w w' := by
  obtain ⟨i0, hi0, hz0, hz1, hz2⟩ := info_parts infoBk
  have hol : (cur.take (i * 2)).length = i * i0.size := by rw [List.length_take, hcl, hz1]; omega
  have hold := run_firstCells_some (P := Try.prog) w.drew i0.size i ⟨g, 0, none⟩ i cap (cur.take (i * 2)) hol (fun j v hj => by
    have := src_of (w := w.drew) hg 0 (i * 2) j v (by simpa using hj)
    simpa using this)
  have hge := grownCap_ge w (i + k) cap 92
  have hcm := grownCap_le_maxLen w (i + k) cap 92 (by unfold maxLen; omega)
  have hnc := nextslicecap_le hk
  generalize hc' : grownCap w (i + k) cap 92 = c' at hge hcm
  refine ⟨w.drew.alloc (.cells ((cur.take (i * 2)).toArray ++ Builtin.zeroCells (Value.agg #[.slice none 0 0, .int .i64 0]).cells k ++ Builtin.zeroCells (Value.agg #[.slice none 0 0, .int .i64 0]).cells (c' - (i + k))) 92), c', cur.take (i * 2) ++ ((Builtin.zeroCells (Value.agg #[.slice none 0 0, .int .i64 0]).cells k).toList ++ (Builtin.zeroCells (Value.agg #[.slice none 0 0, .int .i64 0]).cells (c' - (i + k))).toList), fun ty => ?_, ?_, ?_, ?_, hge, hcm, ((Below.refl _ w).drew.alloc (by simp) _)⟩
  · rw [← hc']
    exact Lib.run_append_grow_zeros w 65 3 ty 92 i0 _ .i64 .i64 Try.underlying65 Try.underlying3 hi0 hz0 (some ⟨g, 0, none⟩) i cap (cur.take (i * 2)) hold k (by omega) (by rw [hz1]; decide) (by omega) (by omega) (by rw [hz2]; omega) (by rw [hz2]; omega)
  · rw [show w.heap.size = w.drew.heap.size from rfl, heap_alloc_new]
    simp
  · simp only [List.length_append, Array.length_toList, size_zeroCells, hol, hz1]
    simp only [Value.cells, List.size_toArray, List.length_cons, List.length_nil]
    omega
  · rw [List.take_append_of_le_length (by rw [List.length_take, hcl]; omega), List.take_take, Nat.min_self]

theorem overB (w : World) (ga oa gb ob la ca lb cb : Nat) (hne : ga ≠ gb) (xa xb : Array Value) (ha : w.heap[ga]? = some (.cells xa 92 (0, 0))) (hb : w.heap[gb]? = some (.cells xb 92 (0, 0))) (hp : xb.size ≠ 0) :
    (callFunc 74 #[.slice (some ⟨ga, oa, none⟩) la ca, .slice (some ⟨gb, ob, none⟩) lb cb]).run Try.prog w = .ok (.value (.bool false)) w := by
  rw [run_callFunc_extern Try.func74 (by kernel_rfl) (by kernel_rfl) (by kernel_rfl) (e := Extern.SlicesOverlaps.overlaps #[65, 65] #[4]) (by kernel_rfl),
    Lib.run_overlaps_apart w 65 4 92 Try.underlying65 2 (by intro w; kernel_rfl) ⟨ga, oa, none⟩ ⟨gb, ob, none⟩ la ca lb cb hne 92 92 xa.size xb.size (by simp [World.shape?, ha]) (by simp [World.shape?, hb]) hp (frozen_row ha _) (frozen_row ha _)]
  rfl

def ReplPost (w : World) (a : Option Addr) (n cap tot : Nat) (rs : Blks) (e : Ending) (w' : World) : Prop :=
  ∃ v', e = .returned v' ∧ w'.ownsRow 0 92 2 v' tot (flatB rs) ∧ Fr (own1 (.slice a n cap)) w w' ∧ Near w (.slice a n cap) v'

set_option maxHeartbeats 2000000 in
/-- the last ones; no fewer than there were -/
theorem repl_end_more (g n cap i gv m cv : Nat) (ps qs : Blks) (w : World) (h : w.ownsRow 0 92 2 (.slice (some ⟨g, 0, none⟩) n cap) n (flatB ps)) (hv : w.ownsRow 0 92 2 (.slice (some ⟨gv, 0, none⟩) m cv) m (flatB qs))
    (hi : i < n) (hm : n ≤ i + m) (hb : n + m ≤ 1073741823) :
    Calls Try.prog 63 #[.slice (some ⟨g, 0, none⟩) n cap, .int .i64 i, .int .i64 n, .slice (some ⟨gv, 0, none⟩) m cv] w (ReplPost w (some ⟨g, 0, none⟩) n cap (i + m) (ps.take i ++ qs)) := by
  obtain ⟨i0, hi0, hz0, hz1, hz2⟩ := info_parts infoBk
  obtain ⟨cur, hg, hcl, htake, hnc, hcm, hB, -⟩ := own_cur h
  have hcm' : cap ≤ 9223372036854775807 := by unfold maxLen at hcm; omega
  have h0 := own_of (B := 0) (n := i) (cap := cap) (size := 2) hg (Nat.zero_le _) (by omega) hcm (by rw [List.size_toArray, hcl])
  rw [show cur.toArray.toList.take (i * 2) = flatB (ps.take i) from by rw [← flatB_take, ← htake, List.take_take, Nat.min_eq_left (by omega)]] at h0
  have hrc := Rc.own hv
  obtain ⟨v', w', hrun, hown, hf, hbb⟩ := run_append_own_k (P := Try.prog) w 0 65 92 i0 _ 2 32 Try.underlying65 hi0 hz0 hz1 hz2 rfl (by decide) (.slice (some ⟨g, 0, none⟩) i cap) i (flatB (ps.take i)) h0 (some ⟨gv, 0, none⟩) m cv (flatB qs) hrc.1
    (fun hp => hrc.src hp) (flatB_one1 _) (by unfold maxLen; omega) (by omega) (Nat.zero_le _)
  obtain ⟨a', c', rfl⟩ := own_slice hown
  rw [← flatB_append] at hown
  have HP : Hid (ReplPost w (some ⟨g, 0, none⟩) n cap (i + m) (ps.take i ++ qs) (.returned (.slice a' (i + m) c')) w') := by
    refine ⟨_, rfl, hown, hf, ?_⟩
    rcases hbb with hb | hb
    · exact .inl hb
    · exact .inr (fun k hk => by rw [hb] at hk; cases hk; exact Nat.le_refl _)
  have HRUN := Lib.hid hrun
  have hic : i ≤ cap := by omega
  have hne1 : ¬ (cap = i) := by omega
  have hin : i ≤ n := by omega
  have hii : ((i : Int) == (n : Int)) = false := by simp; omega
  have hlt : ¬ ((i : Int) + (m : Int) < n) := by omega
  clear hg hcl htake h0 hrun hown hf hbb h hv hrc
  go_enter Try.func63, Try.ntmps63
  go_wp2_with (at_builtin; go_must (with_reducible refine Lib.wpList_append_run _ rfl _ _ _ _ rfl _ _ rfl rfl _ _ (HRUN.out _) ?_))
  go_ret
  exact HP.out

set_option maxHeartbeats 2000000 in
/-- the last ones; fewer than there were -/
theorem repl_end_less (g n cap i gv m cv : Nat) (ps qs : Blks) (w : World) (h : w.ownsRow 0 92 2 (.slice (some ⟨g, 0, none⟩) n cap) n (flatB ps)) (hv : w.ownsRow 0 92 2 (.slice (some ⟨gv, 0, none⟩) m cv) m (flatB qs))
    (hi : i < n) (hm : i + m < n) (hb : n + m ≤ 1073741823) :
    Calls Try.prog 63 #[.slice (some ⟨g, 0, none⟩) n cap, .int .i64 i, .int .i64 n, .slice (some ⟨gv, 0, none⟩) m cv] w (ReplPost w (some ⟨g, 0, none⟩) n cap (i + m) (ps.take i ++ qs)) := by
  obtain ⟨cur, hg, hcl, htake, hnc, hcm, hB, -⟩ := own_cur h
  have hcm' : cap ≤ 9223372036854775807 := by unfold maxLen at hcm; omega
  have hrc := Rc.own hv
  have hql : (flatB qs).length = m * 2 := hrc.1
  obtain ⟨w1, hrun, hg1, hf1⟩ := run_append_in (P := Try.prog) w 65 92 2 Try.underlying65 szBk g i cap cur hg (some ⟨gv, 0, none⟩) m cv (flatB qs) hql
    (fun hp => hrc.src (by omega)) (flatB_one1 _) (by omega) (by rw [hql, hcl]; omega)
  have hcl1 : (splice cur (i * 2) (flatB qs)).length = cap * 2 := by rw [length_splice _ _ _ (by rw [hql, hcl]; omega), hcl]
  obtain ⟨w2, zs, hrun2, hg2, hzl, hf2⟩ := run_clear_any (P := Try.prog) w1 65 92 _ 2 Try.underlying65 zeroBk rfl zero2 g ((i + m) * 2) (n - (i + m)) (cap - (i + m)) (splice cur (i * 2) (flatB qs)) 92 hg1 (by rw [hcl1]; omega) (by omega)
  have HP : Hid (ReplPost w (some ⟨g, 0, none⟩) n cap (i + m) (ps.take i ++ qs) (.returned (.slice (some ⟨g, 0, none⟩) (i + m) cap)) w2) := by
    have hfit : (i + m) * 2 + zs.length ≤ cap * 2 := by rw [hzl]; omega
    have h1 := own_of (B := 0) (n := i + m) (cap := cap) (size := 2) hg2 (Nat.zero_le _) (by omega) hcm (by rw [List.size_toArray, length_splice _ _ _ (by rw [hcl1]; exact hfit), hcl1])
    have e : (splice (splice cur (i * 2) (flatB qs)) ((i + m) * 2) zs).take ((i + m) * 2) = flatB (ps.take i ++ qs) := by
      rw [splice_low _ _ _ _ (by rw [hcl1]; omega) (Nat.le_refl _), show (i + m) * 2 = i * 2 + (flatB qs).length from by rw [hql]; omega, splice_take _ _ _ (by rw [hcl]; omega), flatB_append, ← flatB_take, ← htake, List.take_take, Nat.min_eq_left (by omega)]
    rw [show ((splice (splice cur (i * 2) (flatB qs)) ((i + m) * 2) zs).toArray.toList.take ((i + m) * 2)) = flatB (ps.take i ++ qs) from e] at h1
    exact ⟨_, rfl, h1, (hf1.trans hf2 (fun _ _ h => h)).mono (fun x _ hx => by subst hx; rfl), .inl rfl⟩
  have HRUN := Lib.hid hrun
  have HRUN2 := Lib.hid hrun2
  have hic : i ≤ cap := by omega
  have hne1 : ¬ (cap = i) := by omega
  have hne2 : ¬ (cap = i + m) := by omega
  have hin : i ≤ n := by omega
  have hii : ((i : Int) == (n : Int)) = false := by simp; omega
  have hlt : (i : Int) + (m : Int) < n := by omega
  clear hg hcl htake hrun hg1 hf1 hcl1 hrun2 hg2 hzl hf2 h hv hrc hql
  go_enter Try.func63, Try.ntmps63
  go_wp2_with (first
    | (at_builtin; go_must (with_reducible refine Lib.wpList_append_run _ rfl _ _ _ _ rfl _ _ rfl rfl _ _ (HRUN.out _) ?_))
    | (with_reducible refine wpList_clear_run _ rfl _ _ rfl _ rfl (HRUN2.out _) ?_))
  go_ret
  exact HP.out

theorem runs_newB0 (g n cap i j gv m cv : Nat) (ps qs : Blks) (w : World) (h : w.ownsRow 0 92 2 (.slice (some ⟨g, 0, none⟩) n cap) n (flatB ps)) (hv : w.ownsRow 0 92 2 (.slice (some ⟨gv, 0, none⟩) m cv) m (flatB qs))
    (hij : i < j) (hj : j < n) (hm : 0 < m) (hc : cap < i + m + (n - j)) (hb : n + m ≤ 1073741823) :
    ∃ w1 w2 w3 c1, (∀ ty, (Builtin.append_ #[65, 3] ty #[.slice (some ⟨g, 0, none⟩) i cap, .int .i64 ((m + (n - j) : Nat) : Int)]).run Try.prog w = .ok (.slice (some ⟨w.heap.size, 0, none⟩) (i + m + (n - j)) c1) w1) ∧
      (∀ ty, (Builtin.copy_ #[65, 65] ty #[.slice (some ⟨w.heap.size, i * 2, none⟩) (i + m + (n - j) - i) (c1 - i), .slice (some ⟨gv, 0, none⟩) m cv]).run Try.prog w1 = .ok (goInt (Nat.min m (i + m + (n - j) - i))) w2) ∧
      (∀ ty, (Builtin.copy_ #[65, 65] ty #[.slice (some ⟨w.heap.size, (i + m) * 2, none⟩) (i + m + (n - j) - (i + m)) (c1 - (i + m)), .slice (some ⟨g, j * 2, none⟩) (n - j) (cap - j)]).run Try.prog w2.drew = .ok (goInt (Nat.min (n - j) (i + m + (n - j) - (i + m)))) w3) ∧
      i + m + (n - j) ≤ c1 ∧ c1 ≤ maxLen ∧ w3.ownsRow 0 92 2 (.slice (some ⟨w.heap.size, 0, none⟩) (i + m + (n - j)) c1) (i + m + (n - j)) (flatB (ps.take i ++ (qs ++ ps.drop j))) ∧ Below w.heap.size w w3 := by
  obtain ⟨cur, hg, hcl, htake, hnc, hcm, hB, -⟩ := own_cur h
  have hpl : ps.length = n := by have := h.1; rw [flatB_len] at this; omega
  have hrc := Rc.own hv
  have hql : (flatB qs).length = m * 2 := hrc.1
  have hgl := heap_lt hg
  obtain ⟨w1, c1, L, hrun, hg1, hL, hLt, hc1, hcm1, hb1⟩ := run_zerosB w g i (m + (n - j)) cap cur hg hcl (by omega) (by omega) (by omega)
  rw [← Nat.add_assoc] at hrun hc1
  have hg1' : w1.heap[g]? = some (.cells cur.toArray 92 (0, 0)) := (hb1.block g hgl).trans hg
  have hrc1 := hrc.below hb1
  obtain ⟨w2, hrun2, hg2, hf2⟩ := run_copy_any (P := Try.prog) w1 65 65 92 2 Try.underlying65 szBk (some ⟨w.heap.size, i * 2, none⟩) (some ⟨gv, 0, none⟩) (i + m + (n - j) - i) (c1 - i) m cv w.heap.size (i * 2) L 92 hg1 (flatB qs)
    (by rw [hql, show Nat.min m (i + m + (n - j) - i) = m from Nat.min_eq_left (by omega)]) (fun _ => ⟨rfl, hrc1.src hm⟩) (by rw [hL, hql]; omega) (flatB_one1 _)
  have hg2' : w2.heap[g]? = some (.cells cur.toArray 92 (0, 0)) := (hf2.block g (by have := hb1.size; omega) (by omega)).trans hg1'
  obtain ⟨w3, hrun3, hg3, hf3⟩ := run_copy_any (P := Try.prog) w2.drew 65 65 92 2 Try.underlying65 szBk (some ⟨w.heap.size, (i + m) * 2, none⟩) (some ⟨g, j * 2, none⟩) (i + m + (n - j) - (i + m)) (c1 - (i + m)) (n - j) (cap - j) w.heap.size ((i + m) * 2) (splice L (i * 2) (flatB qs)) 92 hg2 (flatB (ps.drop j))
    (by rw [flatB_dl hpl, show Nat.min (n - j) (i + m + (n - j) - (i + m)) = n - j from Nat.min_eq_left (by omega)]) (fun _ => ⟨rfl, _, rfl, by
      rw [← flatB_drop, ← htake, List.drop_take]
      exact src_of (w := w2.drew) hg2' _ _⟩) (by rw [flatB_dl hpl, length_splice _ _ _ (by rw [hL, hql]; omega), hL]; omega) (flatB_one1 _)
  have hfin : (splice (splice L (i * 2) (flatB qs)) ((i + m) * 2) (flatB (ps.drop j))).take ((i + m + (n - j)) * 2) = flatB (ps.take i ++ (qs ++ ps.drop j)) := by
    have hX : L.take (i * 2) = flatB (ps.take i) := by rw [hLt, ← flatB_take, ← htake, List.take_take, Nat.min_eq_left (by omega)]
    have := sp_new (V := flatB qs) (Y := flatB (ps.drop j)) hX (by rw [hql, flatB_dl hpl, hL]; omega)
    rw [hql, flatB_dl hpl, show i * 2 + m * 2 = (i + m) * 2 from by omega, show (i + m) * 2 + (n - j) * 2 = (i + m + (n - j)) * 2 from by omega] at this
    rw [this, flatB_append, flatB_append]
  have hlen3 : (splice (splice L (i * 2) (flatB qs)) ((i + m) * 2) (flatB (ps.drop j))).length = c1 * 2 := by
    rw [length_splice _ _ _ (by rw [flatB_dl hpl, length_splice _ _ _ (by rw [hL, hql]; omega), hL]; omega), length_splice _ _ _ (by rw [hL, hql]; omega), hL]
  have h3 := own_of (B := 0) (n := i + m + (n - j)) (cap := c1) (size := 2) hg3 (Nat.zero_le _) hc1 hcm1 (by rw [List.size_toArray]; exact hlen3)
  rw [show ((splice (splice L (i * 2) (flatB qs)) ((i + m) * 2) (flatB (ps.drop j))).toArray.toList.take ((i + m + (n - j)) * 2)) = flatB (ps.take i ++ (qs ++ ps.drop j)) from hfin] at h3
  have hbb : Below w.heap.size w w3 := by
    have h := ((Fr.of_below (fun _ => False) hb1).trans hf2 (fun x hx e => absurd e (by omega))).drew.trans hf3 (fun x hx e => absurd e (by omega))
    exact h.below0
  exact ⟨w1, w2, w3, c1, hrun, hrun2, hrun3, hc1, hcm1, h3, hbb⟩

theorem runs_newB (g n cap i j gv m cv T : Nat) (ps qs : Blks) (w : World) (h : w.ownsRow 0 92 2 (.slice (some ⟨g, 0, none⟩) n cap) n (flatB ps)) (hv : w.ownsRow 0 92 2 (.slice (some ⟨gv, 0, none⟩) m cv) m (flatB qs))
    (hij : i < j) (hj : j < n) (hm : 0 < m) (hc : cap < T) (hb : n + m ≤ 1073741823) (hT : i + m + (n - j) = T) :
    ∃ w1 w2 w3 c1, (∀ ty, (Builtin.append_ #[65, 3] ty #[.slice (some ⟨g, 0, none⟩) i cap, .int .i64 ((T : Int) - (i : Int))]).run Try.prog w = .ok (.slice (some ⟨w.heap.size, 0, none⟩) T c1) w1) ∧
      (∀ ty, (Builtin.copy_ #[65, 65] ty #[.slice (some ⟨w.heap.size, i * 2, none⟩) (T - i) (c1 - i), .slice (some ⟨gv, 0, none⟩) m cv]).run Try.prog w1 = .ok (goInt (Nat.min m (T - i))) w2) ∧
      (∀ ty, (Builtin.copy_ #[65, 65] ty #[.slice (some ⟨w.heap.size, (i + m) * 2, none⟩) (T - (i + m)) (c1 - (i + m)), .slice (some ⟨g, j * 2, none⟩) (n - j) (cap - j)]).run Try.prog w2.drew = .ok (goInt (Nat.min (n - j) (T - (i + m)))) w3) ∧
      T ≤ c1 ∧ c1 ≤ maxLen ∧ w3.ownsRow 0 92 2 (.slice (some ⟨w.heap.size, 0, none⟩) T c1) T (flatB (ps.take i ++ (qs ++ ps.drop j))) ∧ Below w.heap.size w w3 := by
  subst hT
  obtain ⟨w1, w2, w3, c1, h1, h2, h3, h4, h5, h6, h7⟩ := runs_newB0 g n cap i j gv m cv ps qs w h hv hij hj hm hc hb
  refine ⟨w1, w2, w3, c1, ?_, h2, h3, h4, h5, h6, h7⟩
  rw [show (((i + m + (n - j) : Nat) : Int) - (i : Int)) = ((m + (n - j) : Nat) : Int) from by omega]
  exact h1

set_option maxHeartbeats 4000000 in
/-- no room: a new row -/
theorem repl_new (g n cap i j gv m cv T : Nat) (ps qs : Blks) (w : World) (h : w.ownsRow 0 92 2 (.slice (some ⟨g, 0, none⟩) n cap) n (flatB ps)) (hv : w.ownsRow 0 92 2 (.slice (some ⟨gv, 0, none⟩) m cv) m (flatB qs))
    (hij : i < j) (hj : j < n) (hm : 0 < m) (hc : cap < T) (hb : n + m ≤ 1073741823) (hT : i + m + (n - j) = T) :
    Calls Try.prog 63 #[.slice (some ⟨g, 0, none⟩) n cap, .int .i64 i, .int .i64 j, .slice (some ⟨gv, 0, none⟩) m cv] w (ReplPost w (some ⟨g, 0, none⟩) n cap T (ps.take i ++ (qs ++ ps.drop j))) := by
  have HK : Hid (∀ q, _) := fun q => runs_newB g n cap i j gv m cv T ps qs (w.drewN q) h hv hij hj hm hc hb hT
  obtain ⟨cur, hg, hcl, htake, hnc, hcm, hB, -⟩ := own_cur h
  have hcm' : cap ≤ 9223372036854775807 := by unfold maxLen at hcm; omega
  have hne0 : ¬ (cap = j) := by omega
  have hne1 : ¬ (cap = i) := by omega
  have hin : i ≤ n := by omega
  have hic : i ≤ cap := by omega
  have hij1 : ((i : Int) == (j : Int)) = false := by simp; omega
  have hij2 : ((j : Int) == (n : Int)) = false := by simp; omega
  have hw5 : IntKind.i64.wrap ((i : Int) + (m : Int)) = (i : Int) + (m : Int) := by rw [IntKind.wrap_i64]; omega
  have hw6 : (0 : Int) ≤ (i : Int) + (m : Int) := by omega
  have hw7 : ((i : Int) + (m : Int)).toNat = i + m := by omega
  have hw8 : IntKind.i64.wrap ((i : Int) + (m : Int) + ((n - j : Nat) : Int)) = (T : Int) := by rw [IntKind.wrap_i64]; omega
  have hjn : j ≤ n := by omega
  have hTb : T ≤ 2147483648 := by omega
  have hiT : i ≤ T := by omega
  have himT : i + m ≤ T := by omega
  have himT2 : i + m < T := by omega
  have HT := Lib.hid hT
  clear hg hcl htake h hv hT
  go_enter Try.func63, Try.ntmps63
  go_wp2_with fail
  go_quiet (fail)
  obtain ⟨w1, w2, w3, c1, hrun, hrun2, hrun3, hc1, hcm1, h3, hbb⟩ := HK.out nq
  rw [show (w.drewN nq).heap.size = w.heap.size from rfl] at hrun hrun2 hrun3 h3 hbb
  have HP : Hid (ReplPost w (some ⟨g, 0, none⟩) n cap T (ps.take i ++ (qs ++ ps.drop j)) (.returned (.slice (some ⟨w.heap.size, 0, none⟩) T c1)) w3) :=
    ⟨_, rfl, h3, Fr.of_below _ ⟨hbb.os, hbb.tape, hbb.output, hbb.size, hbb.block⟩, .inr (fun k hk => by cases hk; exact Nat.le_refl _)⟩
  have HRUN := Lib.hid hrun
  have HRUN2 := Lib.hid hrun2
  have HRUN3 := Lib.hid hrun3
  have hne2 : ¬ (c1 = i) := by omega
  have hne3 : ¬ (c1 = i + m) := by omega
  have hin2 : (i : Int) + (m : Int) ≤ (T : Int) := by omega
  have hcap : (cap : Int) < (T : Int) := by omega
  have hc1' : c1 ≤ 9223372036854775807 := by unfold maxLen at hcm1; omega
  clear hrun hrun2 hrun3 h3 hbb hcm1 hcm
  go_wp2_with (first | (at_builtin; go_must (with_reducible refine Lib.wpList_append_run _ rfl _ _ _ _ rfl _ _ rfl rfl _ _ (HRUN.out _) ?_)) | (with_reducible refine wpList_copy_run _ rfl _ _ _ _ rfl _ _ rfl rfl (HRUN2.out _) ?_))
  go_region_law (refine step_copy_run rfl (.tmp 78) (.tmp 81) _ _ rfl _ _ (by simp [Act.eval, Act.put]) (by simp [Act.eval, Act.put]) (HRUN3.out _) ?_)
  go_wp2_with fail
  go_ret
  exact HP.out

set_option maxHeartbeats 4000000 in
/-- there is room, and no more come than go -/
theorem repl_low (g n cap i j gv m cv T : Nat) (ps qs : Blks) (w : World) (h : w.ownsRow 0 92 2 (.slice (some ⟨g, 0, none⟩) n cap) n (flatB ps)) (hv : w.ownsRow 0 92 2 (.slice (some ⟨gv, 0, none⟩) m cv) m (flatB qs)) (hgv : gv ≠ g)
    (hij : i < j) (hj : j < n) (hm : 0 < m) (hc : T ≤ cap) (hl : i + m ≤ j) (hb : n + m ≤ 1073741823) (hT : i + m + (n - j) = T) :
    Calls Try.prog 63 #[.slice (some ⟨g, 0, none⟩) n cap, .int .i64 i, .int .i64 j, .slice (some ⟨gv, 0, none⟩) m cv] w (ReplPost w (some ⟨g, 0, none⟩) n cap T (ps.take i ++ (qs ++ ps.drop j))) := by
  obtain ⟨cur, hg, hcl, htake, hnc, hcm, hB, -⟩ := own_cur h
  have hcm' : cap ≤ 9223372036854775807 := by unfold maxLen at hcm; omega
  have hpl : ps.length = n := by have := h.1; rw [flatB_len] at this; omega
  have hrc := Rc.own hv
  have hql : (flatB qs).length = m * 2 := hrc.1
  have HK : Hid (∀ q, ∃ w1 w2, (∀ ty, (Builtin.copy_ #[65, 65] ty #[.slice (some ⟨g, i * 2, none⟩) (T - i) (cap - i), .slice (some ⟨gv, 0, none⟩) m cv]).run Try.prog (w.drewN q) = .ok (goInt (Nat.min m (T - i))) w1) ∧
      (∀ ty, (Builtin.copy_ #[65, 65] ty #[.slice (some ⟨g, (i + m) * 2, none⟩) (T - (i + m)) (cap - (i + m)), .slice (some ⟨g, j * 2, none⟩) (n - j) (cap - j)]).run Try.prog w1.drew = .ok (goInt (Nat.min (n - j) (T - (i + m)))) w2) ∧
      (∃ w3, (∀ ty a', (cap = T → a' = some ⟨g, 0, none⟩) → (¬ cap = T → a' = some ⟨g, T * 2, none⟩) → (Builtin.clear_ #[65] ty #[.slice a' (n - T) (cap - T)]).run Try.prog w2 = .ok (.tuple #[]) w3) ∧
      ReplPost w (some ⟨g, 0, none⟩) n cap T (ps.take i ++ (qs ++ ps.drop j)) (.returned (.slice (some ⟨g, 0, none⟩) T cap)) w3)) := by
    intro q
    have hrcq : Rc (w.drewN q) (some ⟨gv, 0, none⟩) m cv 2 (flatB qs) := hrc.below (bdrewN (Below.refl _ _) _)
    obtain ⟨w1, hrun1, hg1, hf1⟩ := run_copy_any (P := Try.prog) (w.drewN q) 65 65 92 2 Try.underlying65 szBk (some ⟨g, i * 2, none⟩) (some ⟨gv, 0, none⟩) (T - i) (cap - i) m cv g (i * 2) cur 92 hg (flatB qs)
      (by rw [hql, show Nat.min m (T - i) = m from Nat.min_eq_left (by omega)]) (fun _ => ⟨rfl, hrcq.src hm⟩) (by rw [hql, hcl]; omega) (flatB_one1 _)
    have hcl1 : (splice cur (i * 2) (flatB qs)).length = cap * 2 := by rw [length_splice _ _ _ (by rw [hql, hcl]; omega), hcl]
    have hd1 : (splice cur (i * 2) (flatB qs)).drop (j * 2) = cur.drop (j * 2) := splice_high _ _ _ _ (by rw [hql, hcl]; omega) (by rw [hql]; omega)
    obtain ⟨w2, hrun2, hg2, hf2⟩ := run_copy_any (P := Try.prog) w1.drew 65 65 92 2 Try.underlying65 szBk (some ⟨g, (i + m) * 2, none⟩) (some ⟨g, j * 2, none⟩) (T - (i + m)) (cap - (i + m)) (n - j) (cap - j) g ((i + m) * 2) (splice cur (i * 2) (flatB qs)) 92 hg1 (flatB (ps.drop j))
      (by rw [flatB_dl hpl, show Nat.min (n - j) (T - (i + m)) = n - j from Nat.min_eq_left (by omega)]) (fun _ => ⟨rfl, _, rfl, by
        have e : flatB (ps.drop j) = ((splice cur (i * 2) (flatB qs)).drop (j * 2)).take ((n - j) * 2) := by
          rw [hd1, ← flatB_drop, ← htake, List.drop_take]; congr 1; omega
        rw [e]
        exact src_of (w := w1.drew) hg1 _ _⟩) (by rw [flatB_dl hpl, hcl1]; omega) (flatB_one1 _)
    have hcl2 : (splice (splice cur (i * 2) (flatB qs)) ((i + m) * 2) (flatB (ps.drop j))).length = cap * 2 := by rw [length_splice _ _ _ (by rw [flatB_dl hpl, hcl1]; omega), hcl1]
    have hfin : (splice (splice cur (i * 2) (flatB qs)) ((i + m) * 2) (flatB (ps.drop j))).take (T * 2) = flatB (ps.take i ++ (qs ++ ps.drop j)) := by
      have hX : cur.take (i * 2) = flatB (ps.take i) := by rw [← flatB_take, ← htake, List.take_take, Nat.min_eq_left (by omega)]
      have := sp_new (V := flatB qs) (Y := flatB (ps.drop j)) hX (by rw [hql, flatB_dl hpl, hcl]; omega)
      rw [hql, flatB_dl hpl, show i * 2 + m * 2 = (i + m) * 2 from by omega, show (i + m) * 2 + (n - j) * 2 = T * 2 from by omega] at this
      rw [this, flatB_append, flatB_append]
    have hf12 : Fr (· = g) w w2 := by
      have h0 : Fr (· = g) w (w.drewN q) := ⟨rfl, rfl, rfl, Nat.le_refl _, fun _ _ _ => rfl⟩
      exact ((h0.trans hf1 (fun _ _ h => h)).drew).trans hf2 (fun _ _ h => h)
    refine ⟨w1, w2, hrun1, hrun2, ?_⟩
    by_cases hn : n = T
    · subst hn
      have h1 := own_of (B := 0) (n := n) (cap := cap) (size := 2) hg2 (Nat.zero_le _) (by omega) hcm (by rw [List.size_toArray, hcl2])
      rw [show ((splice (splice cur (i * 2) (flatB qs)) ((i + m) * 2) (flatB (ps.drop j))).toArray.toList.take (n * 2)) = flatB (ps.take i ++ (qs ++ ps.drop j)) from hfin] at h1
      refine ⟨w2, fun ty a' _ _ => ?_, _, rfl, h1, hf12.mono (fun x _ hx => by subst hx; rfl), .inl rfl⟩
      rw [Nat.sub_self]
      exact run_clear_0 w2 65 92 ty a' _ Try.underlying65
    · obtain ⟨w3, zs, hrun3, hg3, hzl, hf3⟩ := run_clear_any (P := Try.prog) w2 65 92 _ 2 Try.underlying65 zeroBk rfl zero2 g (T * 2) (n - T) (cap - T) _ 92 hg2 (by rw [hcl2]; omega) (by omega)
      have h1 := own_of (B := 0) (n := T) (cap := cap) (size := 2) hg3 (Nat.zero_le _) hc hcm (by rw [List.size_toArray, length_splice _ _ _ (by rw [hcl2, hzl]; omega), hcl2])
      rw [show ((splice (splice (splice cur (i * 2) (flatB qs)) ((i + m) * 2) (flatB (ps.drop j))) (T * 2) zs).toArray.toList.take (T * 2)) = flatB (ps.take i ++ (qs ++ ps.drop j)) from by
        show (splice _ _ _).take _ = _
        rw [splice_low _ _ _ _ (by rw [hcl2]; omega) (Nat.le_refl _), hfin]] at h1
      refine ⟨w3, fun ty a' e1 e2 => ?_, _, rfl, h1, (hf12.trans hf3 (fun _ _ h => h)).mono (fun x _ hx => by subst hx; rfl), .inl rfl⟩
      obtain rfl := e2 (by omega)
      exact hrun3 ty
  have hne0 : ¬ (cap = j) := by omega
  have hne1 : ¬ (cap = i) := by omega
  have hne3 : ¬ (cap = i + m) := by omega
  have hin : i ≤ n := by omega
  have hic : i ≤ cap := by omega
  have hij1 : ((i : Int) == (j : Int)) = false := by simp; omega
  have hij2 : ((j : Int) == (n : Int)) = false := by simp; omega
  have hw5 : IntKind.i64.wrap ((i : Int) + (m : Int)) = (i : Int) + (m : Int) := by rw [IntKind.wrap_i64]; omega
  have hw6 : (0 : Int) ≤ (i : Int) + (m : Int) := by omega
  have hw7 : ((i : Int) + (m : Int)).toNat = i + m := by omega
  have hw8 : IntKind.i64.wrap ((i : Int) + (m : Int) + ((n - j : Nat) : Int)) = (T : Int) := by rw [IntKind.wrap_i64]; omega
  have hjn : j ≤ n := by omega
  have hTb : T ≤ 2147483648 := by omega
  have hiT : i ≤ T := by omega
  have himT : i + m ≤ T := by omega
  have hTn : T ≤ n := by omega
  have HT := Lib.hid hT
  clear hg hcl htake h hv hT hpl hrc hql
  go_enter Try.func63, Try.ntmps63
  go_wp2_with fail
  go_quiet (fail)
  obtain ⟨w1, w2, hrun, hrun2, w3, hrun3, hp⟩ := HK.out nq
  have HP := Lib.hid hp
  have HRUN := Lib.hid hrun
  have HRUN2 := Lib.hid hrun2
  have hin2 : (i : Int) + (m : Int) ≤ (T : Int) := by omega
  have hcap : ¬ ((cap : Int) < (T : Int)) := by omega
  have hle : (i : Int) + (m : Int) ≤ (j : Int) := by omega
  by_cases hcT : cap = T
  · have HRUN3 : Hid (∀ ty, (Builtin.clear_ #[65] ty #[.slice (some ⟨g, 0, none⟩) (n - T) (cap - T)]).run Try.prog w2 = .ok (.tuple #[]) w3) := fun ty => hrun3 ty _ (fun _ => rfl) (fun h => absurd hcT h)
    have hcT2 := eq_true hcT
    have HCT := Lib.hid hcT
    clear hrun hrun2 hrun3 hp hcm hcT
    go_wp2_with (with_reducible refine wpList_copy_run _ rfl _ _ _ _ rfl _ _ rfl rfl (HRUN.out _) ?_)
    go_region_law (refine step_copy_run rfl (.tmp 103) (.tmp 106) _ _ rfl _ _ (by simp [Act.eval, Act.put]) (by simp [Act.eval, Act.put]) (HRUN2.out _) ?_)
    go_wp2_with (with_reducible refine wpList_clear_run _ rfl _ _ rfl _ rfl (HRUN3.out _) ?_)
    go_ret
    exact HP.out
  · have HRUN3 : Hid (∀ ty, (Builtin.clear_ #[65] ty #[.slice (some ⟨g, T * 2, none⟩) (n - T) (cap - T)]).run Try.prog w2 = .ok (.tuple #[]) w3) := fun ty => hrun3 ty _ (fun h => absurd h hcT) (fun _ => rfl)
    clear hrun hrun2 hrun3 hp hcm
    go_wp2_with (with_reducible refine wpList_copy_run _ rfl _ _ _ _ rfl _ _ rfl rfl (HRUN.out _) ?_)
    go_region_law (refine step_copy_run rfl (.tmp 103) (.tmp 106) _ _ rfl _ _ (by simp [Act.eval, Act.put]) (by simp [Act.eval, Act.put]) (HRUN2.out _) ?_)
    go_wp2_with (with_reducible refine wpList_clear_run _ rfl _ _ rfl _ rfl (HRUN3.out _) ?_)
    go_ret
    exact HP.out

set_option maxHeartbeats 4000000 in
/-- there is room, and more come than go -/
theorem repl_high (g n cap i j gv m cv T : Nat) (ps qs : Blks) (w : World) (h : w.ownsRow 0 92 2 (.slice (some ⟨g, 0, none⟩) n cap) n (flatB ps)) (hv : w.ownsRow 0 92 2 (.slice (some ⟨gv, 0, none⟩) m cv) m (flatB qs)) (hgv : gv ≠ g)
    (hij : i < j) (hj : j < n) (hm : 0 < m) (hc : T ≤ cap) (hl : j < i + m) (hb : n + m ≤ 1073741823) (hT : i + m + (n - j) = T) :
    Calls Try.prog 63 #[.slice (some ⟨g, 0, none⟩) n cap, .int .i64 i, .int .i64 j, .slice (some ⟨gv, 0, none⟩) m cv] w (ReplPost w (some ⟨g, 0, none⟩) n cap T (ps.take i ++ (qs ++ ps.drop j))) := by
  obtain ⟨cur, hg, hcl, htake, hnc, hcm, hB, -⟩ := own_cur h
  obtain ⟨curv, hgvh, hclv, _, hmc, _⟩ := own_cur hv
  have hcm' : cap ≤ 9223372036854775807 := by unfold maxLen at hcm; omega
  have hpl : ps.length = n := by have := h.1; rw [flatB_len] at this; omega
  have hrc := Rc.own hv
  have hql : (flatB qs).length = m * 2 := hrc.1
  have HK : Hid (∀ q, ∃ w1 w2, (∀ ty, (Builtin.copy_ #[65, 65] ty #[.slice (some ⟨g, (i + m) * 2, none⟩) (T - (i + m)) (cap - (i + m)), .slice (some ⟨g, j * 2, none⟩) (n - j) (cap - j)]).run Try.prog (w.drewN q).drew = .ok (goInt (Nat.min (n - j) (T - (i + m)))) w1) ∧
      (∀ ty, (Builtin.copy_ #[65, 65] ty #[.slice (some ⟨g, i * 2, none⟩) (T - i) (cap - i), .slice (some ⟨gv, 0, none⟩) m cv]).run Try.prog w1 = .ok (goInt (Nat.min m (T - i))) w2) ∧
      ReplPost w (some ⟨g, 0, none⟩) n cap T (ps.take i ++ (qs ++ ps.drop j)) (.returned (.slice (some ⟨g, 0, none⟩) T cap)) w2) := by
    intro q
    obtain ⟨w1, hrun1, hg1, hf1⟩ := run_copy_any (P := Try.prog) (w.drewN q).drew 65 65 92 2 Try.underlying65 szBk (some ⟨g, (i + m) * 2, none⟩) (some ⟨g, j * 2, none⟩) (T - (i + m)) (cap - (i + m)) (n - j) (cap - j) g ((i + m) * 2) cur 92 hg (flatB (ps.drop j))
      (by rw [flatB_dl hpl, show Nat.min (n - j) (T - (i + m)) = n - j from Nat.min_eq_left (by omega)]) (fun _ => ⟨rfl, _, rfl, by
        rw [← flatB_drop, ← htake, List.drop_take]
        exact src_of (w := (w.drewN q).drew) hg _ _⟩) (by rw [flatB_dl hpl, hcl]; omega) (flatB_one1 _)
    have hrc1 : Rc w1 (some ⟨gv, 0, none⟩) m cv 2 (flatB qs) := by
      have h0 : Fr (· = g) w w1 := by
        have h0 : Fr (· = g) w (w.drewN q).drew := ⟨rfl, rfl, rfl, Nat.le_refl _, fun _ _ _ => rfl⟩
        exact h0.trans hf1 (fun _ _ h => h)
      exact hrc.frF (F := fun k => k = gv) (fun _ ad e => by cases e; rfl) h0 (fun k e => by subst e; exact hgv)
    have hcl1 : (splice cur ((i + m) * 2) (flatB (ps.drop j))).length = cap * 2 := by rw [length_splice _ _ _ (by rw [flatB_dl hpl, hcl]; omega), hcl]
    obtain ⟨w2, hrun2, hg2, hf2⟩ := run_copy_any (P := Try.prog) w1 65 65 92 2 Try.underlying65 szBk (some ⟨g, i * 2, none⟩) (some ⟨gv, 0, none⟩) (T - i) (cap - i) m cv g (i * 2) (splice cur ((i + m) * 2) (flatB (ps.drop j))) 92 hg1 (flatB qs)
      (by rw [hql, show Nat.min m (T - i) = m from Nat.min_eq_left (by omega)]) (fun _ => ⟨rfl, hrc1.src hm⟩) (by rw [hcl1, hql]; omega) (flatB_one1 _)
    have hfin : (splice (splice cur ((i + m) * 2) (flatB (ps.drop j))) (i * 2) (flatB qs)).take (T * 2) = flatB (ps.take i ++ (qs ++ ps.drop j)) := by
      have := sp_in (L := cur) (V := flatB qs) (Y := flatB (ps.drop j)) (a := i * 2) (by rw [hql, flatB_dl hpl, hcl]; omega)
      rw [hql, flatB_dl hpl, show i * 2 + m * 2 = (i + m) * 2 from by omega, show (i + m) * 2 + (n - j) * 2 = T * 2 from by omega] at this
      rw [this, flatB_append, flatB_append, ← flatB_take, ← htake, List.take_take, Nat.min_eq_left (by omega)]
    have h2 := own_of (B := 0) (n := T) (cap := cap) (size := 2) hg2 (Nat.zero_le _) hc hcm (by rw [List.size_toArray, length_splice _ _ _ (by rw [hcl1, hql]; omega), hcl1])
    rw [show ((splice (splice cur ((i + m) * 2) (flatB (ps.drop j))) (i * 2) (flatB qs)).toArray.toList.take (T * 2)) = flatB (ps.take i ++ (qs ++ ps.drop j)) from hfin] at h2
    refine ⟨w1, w2, hrun1, hrun2, _, rfl, h2, ?_, .inl rfl⟩
    have h0 : Fr (· = g) w (w.drewN q).drew := ⟨rfl, rfl, rfl, Nat.le_refl _, fun _ _ _ => rfl⟩
    exact ((h0.trans hf1 (fun _ _ h => h)).trans hf2 (fun _ _ h => h)).mono (fun x _ hx => by subst hx; rfl)
  have HOV : Hid (∀ q, _) := fun q => overB (w.drewN q) g ((i + m) * 2) gv 0 (T - (i + m)) (cap - (i + m)) m cv (Ne.symm hgv) _ _ hg hgvh (by rw [List.size_toArray, hclv]; omega)
  have hne0 : ¬ (cap = j) := by omega
  have hne1 : ¬ (cap = i) := by omega
  have hne3 : ¬ (cap = i + m) := by omega
  have hin : i ≤ n := by omega
  have hic : i ≤ cap := by omega
  have hij1 : ((i : Int) == (j : Int)) = false := by simp; omega
  have hij2 : ((j : Int) == (n : Int)) = false := by simp; omega
  have hw5 : IntKind.i64.wrap ((i : Int) + (m : Int)) = (i : Int) + (m : Int) := by rw [IntKind.wrap_i64]; omega
  have hw6 : (0 : Int) ≤ (i : Int) + (m : Int) := by omega
  have hw7 : ((i : Int) + (m : Int)).toNat = i + m := by omega
  have hw8 : IntKind.i64.wrap ((i : Int) + (m : Int) + ((n - j : Nat) : Int)) = (T : Int) := by rw [IntKind.wrap_i64]; omega
  have hjn : j ≤ n := by omega
  have hTb : T ≤ 2147483648 := by omega
  have hiT : i ≤ T := by omega
  have himT : i + m ≤ T := by omega
  have HT := Lib.hid hT
  clear hg hcl htake h hv hT hpl hrc hql hgvh hclv
  go_enter Try.func63, Try.ntmps63
  go_wp2_with fail
  go_quiet (fail)
  obtain ⟨w1, w2, hrun, hrun2, hp⟩ := HK.out nq
  have hov := HOV.out nq
  have HP := Lib.hid hp
  have HRUN := Lib.hid hrun
  have HRUN2 := Lib.hid hrun2
  have hin2 : (i : Int) + (m : Int) ≤ (T : Int) := by omega
  have hcap : ¬ ((cap : Int) < (T : Int)) := by omega
  have hle : ¬ ((i : Int) + (m : Int) ≤ (j : Int)) := by omega
  clear hrun hrun2 hp hcm
  go_wp2_with (simp only [hov])
  go_region_law (refine step_copy_run rfl (.tmp 126) (.tmp 129) _ _ rfl _ _ (by simp [Act.eval, Act.put]) (by simp [Act.eval, Act.put]) (HRUN.out _) ?_)
  go_wp2_with (with_reducible refine wpList_copy_run _ rfl _ _ _ _ rfl _ _ rfl rfl (HRUN2.out _) ?_)
  go_ret
  exact HP.out

/-- blocks in the place of the i-th to the j-th -/
theorem repl_any (a : Option Addr) (n cap i j gv m cv : Nat) (ps qs : Blks) (w : World) (h : w.ownsRow 0 92 2 (.slice a n cap) n (flatB ps)) (hv : w.ownsRow 0 92 2 (.slice (some ⟨gv, 0, none⟩) m cv) m (flatB qs)) (hgv : (Value.slice a n cap).ownBlock ≠ some gv)
    (hij : i < j) (hj : j ≤ n) (hm : 0 < m) (hb : n + m ≤ 1073741823) :
    Calls Try.prog 63 #[.slice a n cap, .int .i64 i, .int .i64 j, .slice (some ⟨gv, 0, none⟩) m cv] w (ReplPost w a n cap (i + m + (n - j)) (ps.take i ++ (qs ++ ps.drop j))) := by
  obtain ⟨g, rfl⟩ := own_some h (by omega)
  have hne : gv ≠ g := fun e => hgv (by rw [e]; rfl)
  have hpl : ps.length = n := by have := h.1; rw [flatB_len] at this; omega
  by_cases e : j = n
  · subst e
    rw [Nat.sub_self, Nat.add_zero, List.drop_eq_nil_of_le (by omega), List.append_nil]
    by_cases hm2 : j ≤ i + m
    · exact repl_end_more g j cap i gv m cv ps qs w h hv hij hm2 hb
    · exact repl_end_less g j cap i gv m cv ps qs w h hv hij (by omega) hb
  · by_cases hc : i + m + (n - j) ≤ cap
    · by_cases hl : i + m ≤ j
      · exact repl_low g n cap i j gv m cv _ ps qs w h hv hne hij (by omega) hm hc hl hb rfl
      · exact repl_high g n cap i j gv m cv _ ps qs w h hv hne hij (by omega) hm hc (by omega) hb rfl
    · exact repl_new g n cap i j gv m cv _ ps qs w h hv hij (by omega) hm (by omega) hb rfl

set_option maxHeartbeats 2000000 in
/-- onto nothing -/
theorem repl_none (gv m cv : Nat) (qs : Blks) (w : World) (hv : w.ownsRow 0 92 2 (.slice (some ⟨gv, 0, none⟩) m cv) m (flatB qs)) (hm : 0 < m) (hb : m ≤ 1073741823) :
    Calls Try.prog 63 #[.slice none 0 0, .int .i64 0, .int .i64 0, .slice (some ⟨gv, 0, none⟩) m cv] w (ReplPost w none 0 0 m qs) := by
  obtain ⟨i0, hi0, hz0, hz1, hz2⟩ := info_parts infoBk
  have hrc := Rc.own hv
  obtain ⟨v', w', hrun, hown, hf, hbb⟩ := run_append_own_k (P := Try.prog) w 0 65 92 i0 _ 2 32 Try.underlying65 hi0 hz0 hz1 hz2 rfl (by decide) (.slice none 0 0) 0 [] (World.ownsRow_nil _ _ _ _) (some ⟨gv, 0, none⟩) m cv (flatB qs) hrc.1
    (fun hp => hrc.src hp) (flatB_one1 _) (by unfold maxLen; omega) (by omega) (Nat.zero_le _)
  obtain ⟨a', c', rfl⟩ := own_slice hown
  rw [Nat.zero_add] at hown hrun hbb
  rw [List.nil_append] at hown
  have HP : Hid (ReplPost w none 0 0 m qs (.returned (.slice a' m c')) w') := by
    refine ⟨_, rfl, hown, hf, ?_⟩
    rcases hbb with hb | hb
    · exact .inl hb
    · exact .inr (fun k hk => by rw [hb] at hk; cases hk; exact Nat.le_refl _)
  have HRUN := Lib.hid hrun
  have HINS : Hid (Calls Try.prog 73 #[.slice none 0 0, .int .i64 0, .slice (some ⟨gv, 0, none⟩) m cv] w fun e w'' => e = .returned (.slice a' m c') ∧ w' = w'') := by
    have hm0 : ((m : Int) == 0) = false := by simp; omega
    clear hrun hown hf hbb hrc hv HP
    show Calls _ _ _ _ _
    go_enter Try.func73, Try.ntmps73
    go_wp2_with (at_builtin; go_must (with_reducible refine Lib.wpList_append_run _ rfl _ _ _ _ rfl _ _ rfl rfl _ _ (HRUN.out _) ?_))
    all_goals
      go_ret
      exact ⟨rfl, rfl⟩
  clear hrun hown hf hbb hrc hv
  go_enter Try.func63, Try.ntmps63
  go_wp2_with (go_at_call 73; refine HINS.out.mono ?_; rintro e w2 ⟨rfl, rfl⟩)
  go_ret
  exact HP.out
end Go.Proofs.Ytndlebopfojjeaa.U
