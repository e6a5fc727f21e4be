/-
  Rows of places; the library's IndexFunc, DeleteFunc, Delete, Clone at them.
-/
import Derived.Test.YtbgbhlnidabhnaaMMap
import Derived.Deep.RegionLaw
import Derived.Deep.QuietTactic
import Derived.BigQuiet
namespace Go.Proofs.Ytbgbhlnidabhnaa.U
open Go.RowKit
set_option linter.unusedVariables false
set_option linter.unusedSimpArgs false
set_option maxRecDepth 100000

def Po.cells (p : Po) : List Value := [.int .i64 p.l, .int .i64 p.c]
def fl (ps : List Po) : List Value := ps.flatMap Po.cells
theorem fl_append (ps qs : List Po) : fl (ps ++ qs) = fl ps ++ fl qs := by simp [fl]
theorem fl_cons (p : Po) (ps : List Po) : fl (p :: ps) = p.cells ++ fl ps := by simp [fl]
theorem fl_one (p : Po) : fl [p] = p.cells := by simp [fl]
theorem fl_len (ps : List Po) : (fl ps).length = ps.length * 2 := by
  induction ps with
  | nil => rfl
  | cons x r ih => rw [fl_cons, List.length_append, ih]; simp [Po.cells]; omega
theorem fl_take : ∀ (ps : List Po) (i : Nat), (fl ps).take (i * 2) = fl (ps.take i)
  | [], i => by simp [fl]
  | p :: r, 0 => by simp [fl]
  | p :: r, i + 1 => by
    rw [fl_cons, List.take_succ_cons, fl_cons, show (i + 1) * 2 = p.cells.length + i * 2 from by simp [Po.cells]; omega, List.take_length_add_append, fl_take r i]
theorem fl_drop : ∀ (ps : List Po) (i : Nat), (fl ps).drop (i * 2) = fl (ps.drop i)
  | [], i => by simp [fl]
  | p :: r, 0 => by simp [fl]
  | p :: r, i + 1 => by
    rw [fl_cons, List.drop_succ_cons, show (i + 1) * 2 = p.cells.length + i * 2 from by simp [Po.cells]; omega, List.drop_length_add_append, fl_drop r i]
theorem fl_at (ps : List Po) (i j : Nat) (p : Po) (hp : ps[i]? = some p) (hj : j < 2) : (fl ps)[i * 2 + j]? = p.cells[j]? := by
  have h : (fl ps).drop (i * 2) = p.cells ++ fl (ps.drop (i + 1)) := by
    obtain ⟨hi, e⟩ := List.getElem?_eq_some_iff.1 hp
    rw [fl_drop, List.drop_eq_getElem_cons hi, fl_cons, e]
  rw [← List.getElem?_drop, h, List.getElem?_append_left (by simp [Po.cells]; omega)]
theorem fl_one1 (ps : List Po) : ∀ u ∈ fl ps, u.oneCell' = true := by
  intro u hu
  simp only [fl, List.mem_flatMap, Po.cells] at hu
  obtain ⟨p, _, hu⟩ := hu
  simp only [List.mem_cons, List.not_mem_nil, or_false] at hu
  rcases hu with rfl | rfl <;> rfl
/-- the i-th place of a row that is read -/
theorem Rc.po {w W : World} {a : Option Addr} {n c i : Nat} {ps : List Po} (h : Rc w a n c 2 (fl ps)) (hb : Below w.heap.size w W) (hi : i < n) :
    ∃ b off, a = some ⟨b, off, none⟩ ∧ b < w.heap.size ∧ ps.length = n ∧ W.cell? ⟨b, off + i * 2, none⟩ = some (.int .i64 (ps.getD i po0).l) ∧ W.cell? ⟨b, off + i * 2 + 1, none⟩ = some (.int .i64 (ps.getD i po0).c) := by
  have hl := h.1
  rw [fl_len] at hl
  have hl : ps.length = n := by omega
  obtain ⟨b, off, rfl, hbl, hc⟩ := h.at_ (by omega)
  have hp : ps[i]? = some (ps.getD i po0) := by rw [List.getD_eq_getElem?_getD, List.getElem?_eq_getElem (by omega)]; rfl
  have c0 := hc (i * 2) _ (by simpa [Po.cells] using fl_at ps i 0 _ hp (by omega))
  have c1 := hc (i * 2 + 1) _ (by simpa [Po.cells] using fl_at ps i 1 _ hp (by omega))
  rw [← Nat.add_assoc] at c1
  exact ⟨b, off, rfl, hbl, hl, (hb.cell (p := ⟨b, off + i * 2, none⟩) hbl).trans c0, (hb.cell (p := ⟨b, off + i * 2 + 1, none⟩) hbl).trans c1⟩

theorem clos_any (q : Po) (pb : Nat) (ln : Int) (w : World) (hc : w.cell? ⟨pb, 0, none⟩ = some (.int .i64 ln)) :
    Calls Try.prog 36 #[q.v, .pointer (some ⟨pb, 0, none⟩)] w fun e w' => e = .returned (.bool (q.l == ln)) ∧ Below w.heap.size w w' := by
  obtain ⟨l, c⟩ := q
  show Calls _ _ #[.agg #[.int .i64 l, .int .i64 c], .pointer (some ⟨pb, 0, none⟩)] w _
  have hpb := block_lt_of_cell hc
  have hc1 := (((Below.refl _ w).alloc (Nat.le_refl _) (.cells #[.int .i64 l, .int .i64 c] 23)).cell (p := ⟨pb, 0, none⟩) hpb).trans hc
  clear hc
  go_enter Try.func36, Try.ntmps36
  go_wp2
  go_ret
  exact ⟨rfl, (Below.refl _ w).alloc (Nat.le_refl _) _⟩

/-- the first in a line -/
def idxL (ln : Int) (ps : List Po) : Option Nat := ps.findIdx? (fun q => q.l == ln)
def idxV : Option Nat → Value
  | none => .int .i64 (-1)
  | some i => .int .i64 (i : Nat)
theorem bool_of_not {b : Bool} (h : ¬ b = true) : b = false := by simpa using h
set_option maxHeartbeats 1000000 in
theorem indexFunc_any (a : Option Addr) (n c pb : Nat) (ln : Int) (ps : List Po) (w : World) (h : Rc w a n c 2 (fl ps)) (hc : w.cell? ⟨pb, 0, none⟩ = some (.int .i64 ln)) :
    Calls Try.prog 40 #[.slice a n c, .func (.func 36) #[] #[.pointer (some ⟨pb, 0, none⟩)]] w fun e w' =>
      e = .returned (idxV (idxL ln ps)) ∧ Below w.heap.size w w' := by
  have hsm := h.small
  have hpb := block_lt_of_cell hc
  have hl : ps.length = n := by have := h.1; rw [fl_len] at this; omega
  have H := Lib.hid h
  have HC := Lib.hid hc
  have HL := Lib.hid hl
  clear h hc hl
  go_enter Try.func40, Try.ntmps40
  go_wp2_with fail
  go_loopw [8] (fun k wr => ∃ i : Nat, i ≤ n ∧ k = .int .i64 i ∧ Hid (∀ j, j < i → (ps.getD j po0).l ≠ ln) ∧ Below w.heap.size w wr) (fun k _ => n - (intOf k).toNat)
  case atStart => exact ⟨0, by omega, rfl, fun j hj => by omega, Below.refl _ _⟩
  case round =>
    obtain ⟨i, hi, rfl, hno, hb⟩ := hrel
    by_cases hlt : i < n
    · obtain ⟨b, off, rfl, hbl, _, c0, c1⟩ := H.out.po hb hlt
      obtain ⟨q, hq⟩ : ∃ q, ps.getD i po0 = q := ⟨_, rfl⟩
      rw [hq] at c0 c1
      have hcc := (hb.cell (p := ⟨pb, 0, none⟩) hpb).trans HC.out
      have HQ := Lib.hid hq
      clear hq
      have hsz := hb.size
      go_wp2_with (go_at_call 36; refine (clos_any q pb ln wr hcc).mono ?_; rintro e w1 ⟨rfl, hb1⟩)
      · have he : (q.l == ln) = true := by assumption
        go_ret
        refine ⟨?_, hb.trans (hb1.mono hsz)⟩
        have : idxL ln ps = some i := by
          unfold idxL
          rw [List.findIdx?_eq_some_iff_getElem]
          have hil : i < ps.length := by rw [HL.out]; exact hlt
          have eq0 : ∀ j (hj : j < ps.length), ps.getD j po0 = ps[j] := fun j hj => by rw [List.getD_eq_getElem?_getD, List.getElem?_eq_getElem hj]; rfl
          refine ⟨hil, by rw [← eq0 i hil, HQ.out]; exact he, fun j hj => ?_⟩
          have := hno.out j hj
          rw [eq0 j (by omega)] at this
          simpa using this
        rw [this]
        rfl
      · have he : (q.l == ln) = false := by first | assumption | exact bool_of_not (by assumption)
        go_roundw
        case rel =>
          refine ⟨i + 1, by omega, by go_num, fun j hj => ?_, hb.trans (hb1.mono hsz)⟩
          by_cases hji : j = i
          · subst hji
            rw [HQ.out]
            simpa using he
          · exact hno.out j (by omega)
        case measure => simp [intOf]; omega
    · obtain rfl : i = n := by omega
      go_wp2
      go_ret
      refine ⟨?_, hb⟩
      have : idxL ln ps = none := by
        unfold idxL
        rw [List.findIdx?_eq_none_iff]
        intro x hx
        obtain ⟨j, hj, rfl⟩ := List.getElem_of_mem hx
        have := hno.out j (by rw [← HL.out]; exact hj)
        rw [List.getD_eq_getElem?_getD, List.getElem?_eq_getElem hj] at this
        simpa using this
      rw [this]
      rfl

theorem zeroPo (w : World) : (zeroValue 23).run Try.prog w = .ok (.agg #[.int .i64 0, .int .i64 0]) w := by kernel_rfl
theorem zero1Po (n : Nat) : ∀ v ∈ (Builtin.zeroCells (Value.agg #[.int .i64 0, .int .i64 0]).cells n).toList, v.oneCell' = true := by
  intro v hv
  simp only [Builtin.zeroCells, Value.cells, Array.toList_map, List.mem_map] at hv
  obtain ⟨i, _, rfl⟩ := hv
  have h3 : i % (#[Value.int .i64 0, Value.int .i64 0] : Array Value).size < 2 := Nat.mod_lt _ (by decide)
  generalize i % (#[Value.int .i64 0, Value.int .i64 0] : Array Value).size = k at h3 ⊢
  match k, h3 with
  | 0, _ => rfl
  | 1, _ => rfl
theorem infoPo : (Try.prog.info? 23).map (fun i => (i.zero, i.size, i.bytes)) = some (some (.agg #[.int .i64 0, .int .i64 0]), 2, 16) := by kernel_rfl
theorem szPo : (Try.prog.info? 23).map (·.size) = some 2 := by kernel_rfl
theorem own_cur {w : World} {B : Nat} {e : TypeId} {size g n cap m : Nat} {xs : List Value} (h : w.ownsRow B e size (.slice (some ⟨g, 0, none⟩) n cap) m xs) :
    ∃ cur : List Value, w.heap[g]? = some (.cells cur.toArray e (0, 0)) ∧ cur.length = cap * size ∧ cur.take (n * size) = xs ∧ n ≤ cap ∧ cap ≤ maxLen ∧ B ≤ g ∧ m = n := by
  rcases h.2 with ⟨h', _⟩ | ⟨g', cap', cur, h', hb, hg, hnc, hcm, hcs, htake⟩
  · simp at h'
  · simp only [Value.slice.injEq, Option.some.injEq, Addr.mk.injEq, and_true, true_and] at h'
    obtain ⟨rfl, rfl, rfl⟩ := h'
    exact ⟨cur.toList, by simpa using hg, by simpa using hcs, htake, hnc, hcm, hb, rfl⟩
theorem src_of {w : World} {g : Nat} {cur : List Value} {t : TypeId} (h : w.heap[g]? = some (.cells cur.toArray t (0, 0))) (off m : Nat) : ∀ j v, ((cur.drop off).take m)[j]? = some v → w.cell? ((⟨g, off, none⟩ : Addr).add j) = some v := by
  intro j v hv
  rw [add_lit, cell_row h]
  rw [List.getElem?_take] at hv
  split at hv
  · rw [List.getElem?_drop] at hv
    simpa using hv
  · cases hv

set_option maxHeartbeats 1000000 in
/-- slices.Delete(s, 0, 1) -/
theorem delete1_any (g n cap : Nat) (ps : List Po) (B : Nat) (w : World) (h : w.ownsRow B 23 2 (.slice (some ⟨g, 0, none⟩) n cap) n (fl ps)) (hn1 : 2 ≤ n) (hn : n ≤ 1073741824) :
    Calls Try.prog 37 #[.slice (some ⟨g, 0, none⟩) n cap, .int .i64 0, .int .i64 1] w fun e w' => e = .returned (.slice (some ⟨g, 0, none⟩) (n - 1) cap) ∧
      w'.ownsRow B 23 2 (.slice (some ⟨g, 0, none⟩) (n - 1) cap) (n - 1) (fl (ps.drop 1)) ∧ Fr (· = g) w w' := by
  obtain ⟨cur, hg, hcl, htake, hnc, hcm, hB, -⟩ := own_cur h
  have hcm' : cap ≤ 9223372036854775807 := by unfold maxLen at hcm; omega
  have H := Lib.hid h
  have HG := Lib.hid hg
  have HT := Lib.hid htake
  have HCL := Lib.hid hcl
  clear h hg htake hcl
  have hne : ¬ (cap = 1) := by omega
  have hne0 : ¬ (cap = 0) := by omega
  obtain ⟨m, hm⟩ : ∃ m, n = m + 1 := ⟨n - 1, by omega⟩
  obtain ⟨c, hc⟩ : ∃ c, cap = c + 1 := ⟨cap - 1, by omega⟩
  obtain ⟨news, hnews⟩ : ∃ news, (cur.drop 2).take ((n - 1) * 2) = news := ⟨_, rfl⟩
  have hnl : news.length = (n - 1) * 2 := by rw [← hnews, List.length_take, List.length_drop, HCL.out]; omega
  have hn1' : ∀ v ∈ news, v.oneCell' = true := by
    have e : news = (fl ps).drop 2 := by
      rw [← hnews, ← HT.out, List.drop_take]
      congr 1
      omega
    rw [e]
    exact fun v hv => fl_one1 ps v (List.mem_of_mem_drop hv)
  obtain ⟨w1, hrun, hg1, hf1⟩ := run_append_in (P := Try.prog) w.drew 37 23 2 Try.underlying37 szPo g 0 cap cur HG.out (some ⟨g, 2, none⟩) (n - 1) (cap - 1) news hnl
    (fun _ => ⟨_, rfl, by rw [← hnews]; exact src_of (w := w.drew) HG.out _ _⟩) hn1' (by omega) (by rw [hnl, HCL.out]; omega)
  go_enter Try.func37, Try.ntmps37
  have HRUN := Lib.hid hrun
  have HG1 := Lib.hid hg1
  have HF1 := Lib.hid hf1
  have HNL := Lib.hid hnl
  have HNW := Lib.hid hnews
  clear hrun hg1 hf1 hnl hnews hn1'
  have HM := Lib.hid hm
  have HC := Lib.hid hc
  clear hm hc
  have h1n : (1 : Int) ≤ (n : Int) := by omega
  go_wp2_with fail
  go_region_law (refine step_append_run rfl (.tmp 22) (.tmp 25) _ _ rfl _ _ (by simp [Act.eval, Act.put]) (by simp [Act.eval, Act.put]) (HRUN.out _) ?_)
  have hcl1 : (splice cur (0 * 2) news).length = cap * 2 := by rw [length_splice _ _ _ (by rw [HNL.out, HCL.out]; omega), HCL.out]
  obtain ⟨w2, zs, hrun2, hg2, hzl, hf2⟩ := run_clear_any (P := Try.prog) w1 37 23 _ 2 Try.underlying37 zeroPo rfl zero1Po g ((n - 1) * 2) (n - (n - 1)) (cap - (n - 1)) (splice cur (0 * 2) news) 23 HG1.out (by rw [hcl1]; omega) (by omega)
  have HRUN2 := Lib.hid hrun2
  have HG2 := Lib.hid hg2
  have HF2 := Lib.hid hf2
  have HZL := Lib.hid hzl
  have HCL1 := Lib.hid hcl1
  clear hrun2 hg2 hf2 hzl hcl1
  have hci : ¬ (cap = n - 1) := by omega
  go_wp2_with (with_reducible refine wpList_clear_run _ rfl _ _ rfl _ rfl (HRUN2.out _) ?_)
  go_ret
  have hfit : (n - 1) * 2 + zs.length ≤ cap * 2 := by rw [HZL.out]; omega
  refine ⟨rfl, ?_, ?_⟩
  · have h1 := own_of (B := B) (n := n - 1) (cap := cap) (size := 2) HG2.out hB (by omega) hcm (by rw [List.size_toArray, length_splice _ _ _ (by rw [HCL1.out]; exact hfit), HCL1.out])
    have e : (splice (splice cur (0 * 2) news) ((n - 1) * 2) zs).take ((n - 1) * 2) = fl (ps.drop 1) := by
      rw [splice_low _ _ _ _ (by rw [HCL1.out]; omega) (Nat.le_refl _), show (n - 1) * 2 = 0 * 2 + news.length from by rw [HNL.out]; omega, splice_take _ _ _ (by rw [HCL.out]; omega), ← fl_drop, ← HT.out, ← HNW.out]
      rw [List.drop_take]
      simp only [Nat.zero_mul, List.take_zero, List.nil_append]
      congr 1
      omega
    rw [e] at h1
    exact h1
  · exact ((Fr.refl (· = g) w).drew.trans HF1.out (fun _ _ h => h)).trans HF2.out (fun _ _ h => h)

theorem clonePo_any (a : Option Addr) (n c : Nat) (ps : List Po) (w : World) (hr : Rc w a n c 2 (fl ps)) (hn : n ≤ 1073741824) :
    Calls Try.prog 38 #[.slice a n c] w fun e w' => ∃ a' c', e = .returned (.slice a' n c') ∧ w'.ownsRow w.heap.size 23 2 (.slice a' n c') n (fl ps) ∧ Below w.heap.size w w' := by
  cases a with
  | none =>
    have hc := hr.2.2.2.1 rfl
    have hnc := hr.2.1
    obtain rfl : c = 0 := hc
    obtain rfl : n = 0 := by omega
    obtain rfl : ps = [] := List.eq_nil_of_length_eq_zero (by have := hr.1; rw [fl_len] at this; omega)
    have hq := Lib.run_eql_slice_nil (P := Try.prog) w 37 23 none 0 0 0 0 Try.underlying37
    go_enter Try.func38, Try.ntmps38
    go_wp2
    go_ret
    exact ⟨_, _, rfl, World.ownsRow_nil _ _ _ _, Below.refl _ _⟩
  | some ad =>
    obtain ⟨i0, hi0, hz0, hz1, hz2⟩ := info_parts infoPo
    have hq := Lib.run_eql_slice_nil (P := Try.prog) w 37 23 (some ad) n c 0 0 Try.underlying37
    have hb0 : Below w.heap.size w (w.alloc (.cells #[] 23)) := (Below.refl _ w).alloc (Nat.le_refl _) _
    obtain ⟨v', w1, hrun, hown, hfr, hnear⟩ := run_append_own_k (P := Try.prog) (w.alloc (.cells #[] 23)) w.heap.size 37 23 i0 _ 2 16 Try.underlying37 hi0 hz0 hz1 hz2 rfl (by decide) (.slice (some ⟨w.heap.size, 0, none⟩) 0 0) 0 [] (World.ownsRow_lit w #[] 0 (Nat.le_refl _) (Nat.zero_le _) rfl) (some ad) n c (fl ps) (by simpa using hr.1) (fun hp => (hr.below hb0).src hp) (fl_one1 _) (by unfold maxLen; omega) (by omega) (by simp)
    rw [Nat.zero_add] at hown
    rw [List.nil_append] at hown
    obtain ⟨a', c', rfl⟩ := own_slice hown
    have HRUN := Lib.hid hrun
    have HO := Lib.hid hown
    have HB : Hid (Below w.heap.size w w1) := by
      show Below _ _ _
      have h1 := (Fr.of_below (fun _ => False) hb0).trans hfr (fun x hx e => by unfold Value.ownBlock at e; simp at e; omega)
      exact h1.below0
    clear hrun hown hfr hnear hb0 hr
    go_enter Try.func38, Try.ntmps38
    go_wp2_with (at_builtin; go_must (with_reducible refine Lib.wpList_append_run _ rfl _ _ _ _ rfl _ _ rfl rfl _ _ (HRUN.out _) ?_))
    go_ret
    exact ⟨a', c', rfl, HO.out, HB.out⟩

theorem set2_splice {α : Type} : ∀ (L : List α) (k : Nat) (x y : α), k + 1 < L.length → (L.set k x).set (k + 1) y = splice L k [x, y]
  | [], k, x, y, h => by simp at h
  | [a], 0, x, y, h => by simp at h
  | a :: b :: t, 0, x, y, h => by simp [splice]
  | a :: t, k + 1, x, y, h => by
    have ih := set2_splice t k x y (by simpa using h)
    have e : k + 1 + 2 = (k + 2) + 1 := by omega
    simp only [List.set_cons_succ, ih]
    simp [splice, e]
/-- what deleting a line leaves -/
def notL (ln : Int) (ps : List Po) : List Po := ps.filter (fun q => q.l != ln)
set_option maxHeartbeats 2000000 in
theorem deleteFunc_any (a : Option Addr) (n cap pb : Nat) (ln : Int) (ps : List Po) (B : Nat) (w : World) (h : w.ownsRow B 23 2 (.slice a n cap) n (fl ps)) (hc : w.cell? ⟨pb, 0, none⟩ = some (.int .i64 ln)) (hpg : ∀ k, (Value.slice a n cap).ownBlock = some k → k ≠ pb) (hn : n ≤ 1073741824) :
    Calls Try.prog 35 #[.slice a n cap, .func (.func 36) #[] #[.pointer (some ⟨pb, 0, none⟩)]] w fun e w' =>
      e = .returned (.slice a (notL ln ps).length cap) ∧ w'.ownsRow B 23 2 (.slice a (notL ln ps).length cap) (notL ln ps).length (fl (notL ln ps)) ∧ Fr (fun k => some k = (Value.slice a n cap).ownBlock) w w' := by
  have hrc := Rc.own h
  have hl : ps.length = n := by have := h.1; rw [fl_len] at this; omega
  have hidx := indexFunc_any a n cap pb ln ps w hrc hc
  cases hi : idxL ln ps with
  | none =>
    rw [hi] at hidx
    have e : notL ln ps = ps := by
      unfold notL
      rw [List.filter_eq_self]
      unfold idxL at hi
      rw [List.findIdx?_eq_none_iff] at hi
      intro x hx
      have := hi x hx
      simpa using this
    rw [e, hl]
    have H := Lib.hid h
    clear h hrc hc
    go_enter Try.func35, Try.ntmps35
    go_wp2_with (go_at_call 40; refine hidx.mono ?_; rintro e w1 ⟨rfl, hb1⟩; unfold idxV)
    go_ret
    exact ⟨rfl, own_fr H.out (Fr.of_below (fun _ => False) hb1) (fun _ _ h => h), Fr.of_below _ hb1⟩
  | some i =>
    rw [hi] at hidx
    have hin : i < n ∧ ∀ j, j < i → (ps.getD j po0).l ≠ ln := by
      unfold idxL at hi
      rw [List.findIdx?_eq_some_iff_getElem] at hi
      obtain ⟨h1, h2, h3⟩ := hi
      refine ⟨by omega, fun j hj => ?_⟩
      have := h3 j hj
      rw [List.getD_eq_getElem?_getD, List.getElem?_eq_getElem (by omega)]
      simpa using this
    have hhit : (ps.getD i po0).l = ln := by
      unfold idxL at hi
      rw [List.findIdx?_eq_some_iff_getElem] at hi
      obtain ⟨h1, h2, h3⟩ := hi
      rw [List.getD_eq_getElem?_getD, List.getElem?_eq_getElem (by omega)]
      simpa using h2
    have hfirst : notL ln (ps.take (i + 1)) = ps.take i := by
      have e : ps.take (i + 1) = ps.take i ++ [ps.getD i po0] := by
        rw [List.take_add_one, List.getD_eq_getElem?_getD, List.getElem?_eq_getElem (by omega)]
        rfl
      unfold notL
      rw [e, List.filter_append, List.filter_eq_self.2 (fun x hx => by
        obtain ⟨j, hj, rfl⟩ := List.getElem_of_mem hx
        simp only [List.length_take] at hj
        have := hin.2 j (by omega)
        rw [List.getD_eq_getElem?_getD, List.getElem?_eq_getElem (by omega)] at this
        rw [List.getElem_take]
        simpa using this)]
      rw [List.filter_cons, hhit]
      simp
    obtain ⟨g, rfl⟩ := own_some h (by omega)
    obtain ⟨cur, hg, hcl, htake, hnc, hcm, hB, -⟩ := own_cur h
    have hpbg : pb ≠ g := fun e => hpg g rfl e.symm
    have hpb := block_lt_of_cell hc
    have hcm' : cap ≤ 9223372036854775807 := by unfold maxLen at hcm; omega
    have hin1 := hin.1
    have hi1 : ((i : Int) == -1) = false := by simp
    have HIN := Lib.hid hin
    have HF1 := Lib.hid hfirst
    have HL := Lib.hid hl
    have HC := Lib.hid hc
    have HG := Lib.hid hg
    have HCL := Lib.hid hcl
    have HT := Lib.hid htake
    clear hin hfirst hl hc h hrc hg hcl htake hhit hi hpg
    have hgE : (fun k => some k = (Value.slice (some ⟨g, 0, none⟩) n cap).ownBlock) = (· = g) := by funext k; simp [Value.ownBlock]
    rw [hgE]
    clear hgE
    obtain ⟨cps, hcps⟩ : ∃ cps, notL ln ps = cps := ⟨_, rfl⟩
    obtain ⟨m, hm⟩ : ∃ m, cps.length = m := ⟨_, rfl⟩
    rw [hcps, hm]
    have HCP := Lib.hid hcps
    have HM := Lib.hid hm
    clear hcps hm
    go_enter Try.func35, Try.ntmps35
    go_wp2_with (go_at_call 40; refine hidx.mono ?_; rintro e w1 ⟨rfl, hb1⟩; unfold idxV)
    have HB1 := Lib.hid hb1
    clear hb1
    go_loopw [5, 6] (fun kv jv wr => ∃ k j : Nat, kv = .int .i64 k ∧ jv = .int .i64 j ∧ k < j ∧ j ≤ n ∧ Hid (k = (notL ln (ps.take j)).length ∧ ∃ cur' : List Value, wr.heap[g]? = some (.cells cur'.toArray 23 (0, 0)) ∧ cur'.length = cap * 2 ∧ cur'.take (k * 2) = fl (notL ln (ps.take j)) ∧ cur'.drop (j * 2) = cur.drop (j * 2) ∧ Fr (· = g) w wr)) (fun _ j _ => n - (intOf j).toNat)
    case atStart =>
      refine ⟨i, i + 1, rfl, by go_num, by omega, by omega, ?_, cur, (HB1.out.block g (heap_lt HG.out)).trans HG.out, HCL.out, ?_, rfl, Fr.of_below _ HB1.out⟩
      · rw [HF1.out, List.length_take, HL.out]; omega
      · rw [HF1.out, ← fl_take, ← HT.out, List.take_take, Nat.min_eq_left (by omega)]
    case round =>
      obtain ⟨k, j, rfl, rfl, hkj, hjn, hinv⟩ := hrel
      by_cases hlt : j < n
      · obtain ⟨q, hq⟩ : ∃ q, ps.getD j po0 = q := ⟨_, rfl⟩
        have hqq : ps[j]? = some q := by rw [← hq, List.getD_eq_getElem?_getD, List.getElem?_eq_getElem (by rw [HL.out]; omega)]; rfl
        have htk : ps.take (j + 1) = ps.take j ++ [q] := by rw [List.take_add_one, hqq]; rfl
        obtain ⟨c0, c1⟩ : wr.cell? ⟨g, j * 2, none⟩ = some (.int .i64 q.l) ∧ wr.cell? ⟨g, j * 2 + 1, none⟩ = some (.int .i64 q.c) := by
          obtain ⟨_, cur', i1, i2, i3, i4, i5⟩ := hinv.out
          have rd : ∀ t, t < 2 → wr.cell? ⟨g, j * 2 + t, none⟩ = q.cells[t]? := by
            intro t ht
            rw [cell_row i1]
            have e1 : cur'.toArray[j * 2 + t]? = (cur'.drop (j * 2))[t]? := by simp
            rw [e1, i4, List.getElem?_drop, ← fl_at ps j t q hqq ht, ← HT.out, List.getElem?_take, if_pos (by omega)]
          exact ⟨by simpa [Po.cells] using rd 0 (by omega), by simpa [Po.cells] using rd 1 (by omega)⟩
        have hgl : g < wr.heap.size := by obtain ⟨_, cur', i1, _⟩ := hinv.out; exact heap_lt i1
        have hpc : wr.cell? ⟨pb, 0, none⟩ = some (.int .i64 ln) := by
          obtain ⟨_, cur', i1, i2, i3, i4, i5⟩ := hinv.out
          rw [World.cell?_of_block (a := ⟨pb, 0, none⟩) (i5.block pb hpb hpbg)]
          exact HC.out
        have hpl : pb < wr.heap.size := block_lt_of_cell hpc
        have hpc1 := (((Below.refl _ wr).alloc (Nat.le_refl _) (.cells #[.int .i64 q.l, .int .i64 q.c] 23)).cell (p := ⟨pb, 0, none⟩) hpl).trans hpc
        have HTK := Lib.hid htk
        have HQQ := Lib.hid hqq
        clear hq hqq htk hpc
        by_cases hqe : q.l = ln
        · have he : (q.l == ln) = true := by simpa using hqe
          have HE := Lib.hid he
          have HQE := Lib.hid hqe
          clear he hqe
          go_wp2_with (go_at_call 36; refine (clos_any q pb ln _ hpc1).mono ?_; rintro e w2 ⟨rfl, hb2⟩; rw [HE.out])
          go_roundw
          case rel =>
            obtain ⟨i0, cur', i1, i2, i3, i4, i5⟩ := hinv.out
            have e1 : notL ln (ps.take (j + 1)) = notL ln (ps.take j) := by
              rw [HTK.out]; unfold notL; rw [List.filter_append, List.filter_cons]; simp [HQE.out]
            have hbw : Below wr.heap.size wr w2 := ((Below.refl _ wr).alloc (Nat.le_refl _) _).trans (hb2.mono (by simp))
            refine ⟨k, j + 1, rfl, by go_num, by omega, by omega, by rw [e1]; exact i0, cur', (hbw.block g hgl).trans i1, i2, by rw [e1]; exact i3, ?_, (i5.trans (Fr.of_below (fun _ => False) hbw) (fun _ _ h => h.elim))⟩
            rw [show (j + 1) * 2 = j * 2 + 2 by omega, ← List.drop_drop, i4, List.drop_drop]
          case measure => simp [intOf]; omega
        · have he : (q.l == ln) = false := by simpa using hqe
          obtain ⟨x0, x1, f0, f1⟩ : ∃ x0 x1, wr.cell? ⟨g, k * 2, none⟩ = some x0 ∧ wr.cell? ⟨g, k * 2 + 1, none⟩ = some x1 := by
            obtain ⟨_, cur', i1, i2, i3, i4, i5⟩ := hinv.out
            exact ⟨cur'[k * 2]'(by omega), cur'[k * 2 + 1]'(by omega), by rw [cell_row i1]; simp, by rw [cell_row i1]; simp⟩
          have fz : wr.frozen? ⟨g, k * 2, none⟩ = false ∧ wr.frozen? ⟨g, k * 2 + 1, none⟩ = false := by
            obtain ⟨_, cur', i1, _⟩ := hinv.out
            exact ⟨frozen_row i1 _, frozen_row i1 _⟩
          obtain ⟨fz0, fz1⟩ := fz
          go_wp2_with (go_at_call 36; refine (clos_any q pb ln _ hpc1).mono ?_; rintro e w2 ⟨rfl, hb2⟩; rw [he]; have n0 := (hb2.cell (p := ⟨wr.heap.size, 0, none⟩) (by simp)).trans (cell_of_row _ _ 0 _ _ _ (heap_alloc_new wr _)); have n1 := (hb2.cell (p := ⟨wr.heap.size, 1, none⟩) (by simp)).trans (cell_of_row _ _ 1 _ _ _ (heap_alloc_new wr _)); have hbw : Below wr.heap.size wr w2 := ((Below.refl _ wr).alloc (Nat.le_refl _) _).trans (hb2.mono (by simp)); have g0 := (hbw.cell (p := ⟨g, k * 2, none⟩) hgl).trans f0; have g1 := (hbw.cell (p := ⟨g, k * 2 + 1, none⟩) hgl).trans f1; have z0 := (hbw.frozen (p := ⟨g, k * 2, none⟩) hgl).trans fz0; have z1 := (hbw.frozen (p := ⟨g, k * 2 + 1, none⟩) hgl).trans fz1; simp at n0 n1)
          go_roundw
          case rel =>
            obtain ⟨i0, cur', i1, i2, i3, i4, i5⟩ := hinv.out
            have e1 : notL ln (ps.take (j + 1)) = notL ln (ps.take j) ++ [q] := by
              rw [HTK.out]; unfold notL; rw [List.filter_append, List.filter_cons]; simp [hqe]
            have hbw : Below wr.heap.size wr w2 := ((Below.refl _ wr).alloc (Nat.le_refl _) _).trans (hb2.mono (by simp))
            have hk2 : k * 2 + 1 < cur'.length := by omega
            have hh := heap_set (heap_set ((hbw.block g hgl).trans i1) (k * 2) (.int .i64 q.l)) (k * 2 + 1) (.int .i64 q.c)
            refine ⟨k + 1, j + 1, by go_num, by go_num, by omega, by omega, ?_, splice cur' (k * 2) q.cells, ?_, ?_, ?_, ?_, ?_⟩
            · rw [e1, List.length_append, ← i0]; rfl
            · rw [hh]
              congr 2
              simp only [List.setIfInBounds_toArray]
              congr 1
              exact set2_splice cur' (k * 2) _ _ hk2
            · rw [length_splice _ _ _ (by simp [Po.cells]; omega)]; exact i2
            · rw [show (k + 1) * 2 = k * 2 + q.cells.length by simp [Po.cells]; omega, splice_take _ _ _ (by omega), i3, e1, fl_append, fl_one]
            · rw [splice_high _ _ _ _ (by simp [Po.cells]; omega) (by simp [Po.cells]; omega), show (j + 1) * 2 = j * 2 + 2 by omega, ← List.drop_drop, i4, List.drop_drop]
            · exact ((i5.trans (Fr.of_below (fun _ => False) hbw) (fun _ _ h => h.elim)).setCell _ _ (fun _ => rfl)).setCell _ _ (fun _ => rfl)
          case measure => simp [intOf]; omega
      · obtain rfl : j = n := by omega
        have hall : ps.take j = ps := List.take_of_length_le (by rw [HL.out]; omega)
        obtain ⟨i0, cur', i1, i2, i3, i4, i5⟩ := hinv.out
        have HI5 := Lib.hid i5
        rw [hall, HCP.out, HM.out] at i0
        rw [hall, HCP.out] at i3
        clear hinv i5 hall
        subst i0
        have hkc : ¬ (cap = k) := by omega
        obtain ⟨w3, zs, hrun3, hg3, hzl, hf3⟩ := run_clear_any (P := Try.prog) wr 37 23 _ 2 Try.underlying37 zeroPo rfl zero1Po g (k * 2) (j - k) (cap - k) cur' 23 i1 (by rw [i2]; omega) (by omega)
        have HRUN := Lib.hid hrun3
        have HG3 := Lib.hid hg3
        have HZL := Lib.hid hzl
        have HF3 := Lib.hid hf3
        have HI3 := Lib.hid i3
        have HI2 := Lib.hid i2
        clear hrun3 hg3 hzl hf3 i1 i2 i3 i4
        go_wp2_with (with_reducible refine wpList_clear_run _ rfl _ _ rfl _ rfl (HRUN.out _) ?_)
        go_ret
        refine ⟨rfl, ?_, HI5.out.trans HF3.out (fun _ _ h => h)⟩
        have h1 := own_of (B := B) (n := k) (cap := cap) (size := 2) HG3.out hB (by omega) hcm (by rw [List.size_toArray, length_splice _ _ _ (by rw [HI2.out, HZL.out]; omega), HI2.out])
        have e : (splice cur' (k * 2) zs).take (k * 2) = fl cps := by
          rw [splice_low _ _ _ _ (by rw [HI2.out]; omega) (Nat.le_refl _), HI3.out]
        rw [e] at h1
        exact h1
end Go.Proofs.Ytbgbhlnidabhnaa.U
