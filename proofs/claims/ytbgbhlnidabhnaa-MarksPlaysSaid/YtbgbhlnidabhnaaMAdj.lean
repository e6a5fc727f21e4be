/-
  Adjust: the jumps' compaction in place.
-/
import Derived.Test.YtbgbhlnidabhnaaMNames
namespace Go.Proofs.Ytbgbhlnidabhnaa.U
open Go.RowKit Go.ChangeMaps
set_option linter.unusedVariables false
set_option linter.unusedSimpArgs false
set_option maxRecDepth 100000

/-- a change in bounds -/
def ChB (c : Ch) : Prop := -1099511627776 ≤ c.pos ∧ c.pos ≤ 1099511627776 ∧ c.old.length ≤ 35184372088832 ∧ c.now.length ≤ 35184372088832
theorem nearM_ok {p : Po} {c : Ch} {B : Int} (h : okP B p) (hB : B ≤ 1099511627776) (hc : ChB c) : NearM p c := by
  obtain ⟨h1, h2, h3, h4⟩ := h
  obtain ⟨k1, k2, k3, k4⟩ := hc
  simp only [NearM]
  omega
theorem ccb_ok {p : Po} {B : Int} (h : okP B p) : i64b p.c := by
  obtain ⟨h1, h2, h3, h4⟩ := h
  simp only [i64b]
  omega
theorem adjJ_snoc (js : List Po) (p : Po) (c : Ch) : adjJ (js ++ [p]) c = adjJ js c ++ (match moveP p c with | some q => [q] | none => []) := by
  unfold adjJ
  rw [List.filterMap_append]
  congr 1
  cases h : moveP p c <;> simp [h]
theorem adjJ_le (js : List Po) (c : Ch) : (adjJ js c).length ≤ js.length := List.length_filterMap_le _ _
theorem goneJ_snoc (js : List Po) (p : Po) (c : Ch) : goneJ (js ++ [p]) c = goneJ js c + (if (moveP p c).isNone then 1 else 0) := by
  unfold goneJ
  rw [List.countP_append]
  congr 1
  cases h : moveP p c <;> simp [h]
theorem goneJ_le (js : List Po) (c : Ch) : goneJ js c ≤ js.length := List.countP_le_length
/-- the index, so far -/
def ixJ (s : Ms) (c : Ch) (i : Nat) : Nat := s.ix - goneJ ((s.js.take i).take s.ix) c
theorem ixJ_le (s : Ms) (c : Ch) (i : Nat) : ixJ s c i ≤ s.ix := Nat.sub_le _ _
theorem take_snoc {α : Type} {l : List α} {i : Nat} {p : α} (h : l[i]? = some p) : l.take (i + 1) = l.take i ++ [p] := by
  rw [List.take_add_one, h]
  rfl
theorem ixJ_kept {s : Ms} {c : Ch} {i : Nat} {p q : Po} (h : s.js[i]? = some p) (hm : moveP p c = some q) : ixJ s c (i + 1) = ixJ s c i := by
  unfold ixJ
  rw [take_snoc h]
  by_cases hi : i < s.ix
  · have hl : (s.js.take i ++ [p]).length ≤ s.ix := by
      have := (List.getElem?_eq_some_iff.1 h).1
      simp
      omega
    have e2 : (s.js.take i).take s.ix = s.js.take i := List.take_of_length_le (by simp; omega)
    rw [List.take_of_length_le hl, e2, goneJ_snoc, hm]
    simp
  · have hl : s.ix ≤ (s.js.take i).length := by
      have := (List.getElem?_eq_some_iff.1 h).1
      simp
      omega
    rw [List.take_append_of_le_length hl]
theorem ixJ_gone {s : Ms} {c : Ch} {i : Nat} {p : Po} (h : s.js[i]? = some p) (hm : moveP p c = none) : ixJ s c (i + 1) = if i < s.ix then ixJ s c i - 1 else ixJ s c i := by
  unfold ixJ
  rw [take_snoc h]
  by_cases hi : i < s.ix
  · have hl : (s.js.take i ++ [p]).length ≤ s.ix := by
      have := (List.getElem?_eq_some_iff.1 h).1
      simp
      omega
    have e2 : (s.js.take i).take s.ix = s.js.take i := List.take_of_length_le (by simp; omega)
    rw [List.take_of_length_le hl, e2, goneJ_snoc, hm, if_pos hi]
    simp
    omega
  · have hl : s.ix ≤ (s.js.take i).length := by
      have := (List.getElem?_eq_some_iff.1 h).1
      simp
      omega
    rw [List.take_append_of_le_length hl, if_neg hi]
theorem ixJ_pos {s : Ms} {c : Ch} {i : Nat} {p : Po} (h : s.js[i]? = some p) (hi : i < s.ix) : 1 ≤ ixJ s c i := by
  unfold ixJ
  have h1 := goneJ_le ((s.js.take i).take s.ix) c
  have h2 : ((s.js.take i).take s.ix).length ≤ i := by simp; omega
  omega

theorem ansV_none : ansV none = .tuple #[.agg #[.int .i64 0, .int .i64 0], .bool false] := rfl
theorem ansV_some (l c : Int) : ansV (some ⟨l, c⟩) = .tuple #[.agg #[.int .i64 l, .int .i64 c], .bool true] := rfl
theorem adjJ_gone {js : List Po} {i : Nat} {p : Po} {c : Ch} (h : js[i]? = some p) (hm : moveP p c = none) : adjJ (js.take (i + 1)) c = adjJ (js.take i) c := by
  rw [take_snoc h, adjJ_snoc, hm]
  simp
theorem adjJ_kept {js : List Po} {i : Nat} {p q : Po} {c : Ch} (h : js[i]? = some p) (hm : moveP p c = some q) : adjJ (js.take (i + 1)) c = adjJ (js.take i) c ++ [q] := by
  rw [take_snoc h, adjJ_snoc, hm]
/-- in the midst of the compaction: i were looked at, k stay -/
def InvJ (s : Ms) (c : Ch) (g jc : Nat) (cur : List Value) (wb wr : World) (i k x : Nat) (cur2 : List Value) : Prop :=
  x = ixJ s c i ∧ k = (adjJ (s.js.take i) c).length ∧ wr.heap[g]? = some (.cells cur2.toArray 23 (0, 0)) ∧ cur2.length = jc * 2 ∧ cur2.take (k * 2) = fl (adjJ (s.js.take i) c) ∧ cur2.drop (i * 2) = cur.drop (i * 2) ∧ Fr (fun k => k = g) wb wr
section
variable {s : Ms} {c : Ch} {g jc : Nat} {cur cur2 : List Value} {wb wr w4 : World} {i k x : Nat} {p q : Po}
theorem drop2 {a b : List Value} {i : Nat} (h : a.drop (i * 2) = b.drop (i * 2)) : a.drop ((i + 1) * 2) = b.drop ((i + 1) * 2) := by
  rw [show (i + 1) * 2 = i * 2 + 2 by omega, ← List.drop_drop, h, List.drop_drop]
theorem InvJ.gone (h : InvJ s c g jc cur wb wr i k x cur2) (hp : s.js[i]? = some p) (hm : moveP p c = none) (hb : Below wr.heap.size wr w4) : InvJ s c g jc cur wb w4 (i + 1) k (if i < s.ix then x - 1 else x) cur2 := by
  obtain ⟨h1, h2, h3, h4, h5, h6, h7⟩ := h
  refine ⟨by rw [ixJ_gone hp hm, h1], by rw [adjJ_gone hp hm]; exact h2, (hb.block g (heap_lt h3)).trans h3, h4, by rw [adjJ_gone hp hm]; exact h5, drop2 h6, h7.trans (Fr.of_below (fun _ => False) hb) (fun _ _ h => h.elim)⟩
theorem InvJ.kept (h : InvJ s c g jc cur wb wr i k x cur2) (hp : s.js[i]? = some p) (hm : moveP p c = some q) (hki : k ≤ i) (hk : k + 1 ≤ jc) (hg : w4.heap[g]? = some (.cells (splice cur2 (k * 2) q.cells).toArray 23 (0, 0))) (hf : Fr (fun k => k = g) wr w4) : InvJ s c g jc cur wb w4 (i + 1) (k + 1) x (splice cur2 (k * 2) q.cells) := by
  obtain ⟨h1, h2, h3, h4, h5, h6, h7⟩ := h
  have e : (k + 1) * 2 = k * 2 + q.cells.length := by simp [Po.cells]; omega
  refine ⟨by rw [ixJ_kept hp hm, h1], by rw [adjJ_kept hp hm, List.length_append, ← h2]; rfl, hg, by rw [length_splice _ _ _ (by simp [Po.cells]; omega)]; exact h4, ?_, ?_, h7.trans hf (fun _ _ h => h)⟩
  · rw [e, splice_take _ _ _ (by omega), h5, adjJ_kept hp hm, fl_append, fl_one]
  · rw [splice_high _ _ _ _ (by simp [Po.cells]; omega) (by simp [Po.cells]; omega)]
    exact drop2 h6
end
theorem own_ad {w : World} {B : Nat} {e : TypeId} {s : Nat} {ad : Addr} {n c m : Nat} {xs : List Value} (h : w.ownsRow B e s (.slice (some ad) n c) m xs) : ∃ g, ad = ⟨g, 0, none⟩ := by
  rcases h.2 with ⟨hv, _⟩ | ⟨g, cap, cur, hv, _⟩
  · cases hv
  · injection hv with q1 q2 q3
    injection q1 with q1
    exact ⟨g, q1⟩

set_option maxHeartbeats 2000000 in
theorem adjJ_any {P F : Nat → Prop} {bt : Nat} {s : Ms} {B : Int} (c : Ch) (oa na : Option Addr) (oc nc : Nat) (w : World) (h : MkS P w bt s) (hjl : s.js.length ≤ 100) (hjx : s.ix ≤ s.js.length) (hjb : ∀ p ∈ s.js, okP B p) (hB : B ≤ 1099511627776) (hn : RdL F w na c.now.length nc c.now) (hd : ∀ k, P k → ¬ F k) (hcb : ChB c) :
    Calls Try.prog 34 #[.pointer (some ⟨bt, 0, none⟩), .agg #[.int .i64 c.pos, .slice oa c.old.length oc, .slice na c.now.length nc]] w fun e w' => e = .returned (.tuple #[]) ∧ AfM P w w' bt ⟨s.ns, adjJ s.js c, s.ix - goneJ (s.js.take s.ix) c⟩ := by
  obtain ⟨wb, hwb⟩ : ∃ wb, w.alloc (.cells #[.int .i64 c.pos, .slice oa c.old.length oc, .slice na c.now.length nc] 26) = wb := ⟨_, rfl⟩
  have hbb : Below w.heap.size w wb := by rw [← hwb]; exact (Below.refl _ w).alloc (Nat.le_refl _) _
  have hcbk : wb.heap[w.heap.size]? = some (.cells #[.int .i64 c.pos, .slice oa c.old.length oc, .slice na c.now.length nc] 26 (0, 0)) := by rw [← hwb]; exact heap_alloc_new w _
  have hbsz : wb.heap.size = w.heap.size + 1 := by rw [← hwb]; simp
  have hlt := h.lt
  obtain ⟨mb, ja, jc, L, clock, h1, h2, h3, h4, p1, p2, p3, p4⟩ := h.below hbb
  have hmb : mb < w.heap.size := hlt mb p2
  have hbt : bt < w.heap.size := hlt bt p1
  have e1 : wb.cell? ⟨bt, 1, none⟩ = some (.slice ja s.js.length jc) := by rw [cell_row h1]; rfl
  have e2 : wb.cell? ⟨bt, 2, none⟩ = some (.int .i64 (s.ix : Nat)) := by rw [cell_row h1]; rfl
  obtain ⟨n, hnl⟩ : ∃ n, s.js.length = n := ⟨_, rfl⟩
  obtain ⟨ix, hix⟩ : ∃ ix, s.ix = ix := ⟨_, rfl⟩
  have hn100 : n ≤ 100 := by omega
  have hixn : ix ≤ n := by omega
  rw [hnl] at e1
  rw [hix] at e2
  have HNL := Lib.hid (And.intro hnl hix)
  have HWB := Lib.hid hwb
  cases ja with
  | none =>
    have hz : s.js.length = 0 ∧ jc = 0 := by
      rcases h4.2 with ⟨hv, hn0⟩ | ⟨g, cap, cur, hv, _⟩
      · injection hv with q1 q2 q3
        exact ⟨hn0, q3⟩
      · injection hv with q1
        cases q1
    obtain ⟨hz1, rfl⟩ := hz
    have hjs : s.js = [] := List.eq_nil_of_length_eq_zero hz1
    obtain rfl : n = 0 := by omega
    obtain rfl : ix = 0 := by omega
    have f1 := frozen_row h1 1
    have f2 := frozen_row h1 2
    have HCUR := Lib.hid (And.intro h1 (And.intro h2 (And.intro h3 (And.intro hbb hjs))))
    clear h1 h2 h3 h4 hjs hz1 hbb hcbk hnl hix hwb hn hbsz
    obtain ⟨cb, hcbe⟩ : ∃ cb, w.heap.size = cb := ⟨_, rfl⟩
    go_enter Try.func34, Try.ntmps34
    go_upto_region 1 with fail
    rw [HWB.out]
    go_quiet (fail)
    go_upto_region 2 with fail
    obtain ⟨wr, hwr⟩ : ∃ wr, wb.drewN nq = wr := ⟨_, rfl⟩
    have g1 : wr.cell? ⟨bt, 1, none⟩ = some (.slice none 0 0) := by rw [← hwr]; exact e1
    have g2 : wr.cell? ⟨bt, 2, none⟩ = some (.int .i64 0) := by rw [← hwr]; exact e2
    have g3 : wr.frozen? ⟨bt, 1, none⟩ = false := by rw [← hwr]; exact f1
    have g4 : wr.frozen? ⟨bt, 2, none⟩ = false := by rw [← hwr]; exact f2
    rw [hwr]
    have HWR := Lib.hid hwr
    clear hwr e1 e2 f1 f2
    go_wp2
    refine wp_loop_rounds 1 ?_
    rw [rounds_succ]
    go_wp2
    go_end0
    obtain ⟨h1, h2, h3, hbb, hjs⟩ := HCUR.out
    have hbt0 := (show wr.heap[bt]? = wb.heap[bt]? by rw [← HWR.out]; rfl).trans h1
    have hw := heap_set (heap_set hbt0 1 (.slice none 0 0)) 2 (.int .i64 (0 : Nat))
    have hfS : Fr (fun k => k = bt) wb ((wr.setCell ⟨bt, 1, none⟩ (.slice none 0 0)).setCell ⟨bt, 2, none⟩ (.int .i64 (0 : Nat))) := by
      rw [← HWR.out]
      exact ((fr_drewN (Fr.refl (fun k => k = bt) wb) nq).setCell ⟨bt, 1, none⟩ _ (fun _ => rfl)).setCell ⟨bt, 2, none⟩ _ (fun _ => rfl)
    have hfA := hfS.mono (G := P) (fun y _ e => by rw [e]; exact p1)
    refine ⟨rfl, P, ⟨mb, none, 0, L, clock, ?_, ?_, h3, ?_, p1, p2, ?_, fun y hy => Nat.lt_of_lt_of_le (p4 y hy) hfA.size⟩, (Fr.of_below P hbb).trans hfA (fun _ _ h => h), fun y hy => .inl hy⟩
    · refine hw.trans ?_
      have e0 := HNL.out.2
      simp [hjs, adjJ, e0]
    · refine h2.fr hfS (fun e => ?_)
      have hbm := h2.at_
      rw [e, h1] at hbm
      cases hbm
    · have e0 : adjJ s.js c = [] := by rw [hjs]; rfl
      show World.ownsRow _ 0 _ 2 (.slice _ (adjJ s.js c).length 0) (adjJ s.js c).length (fl (adjJ s.js c))
      rw [e0]
      exact World.ownsRow_nil _ _ _ _
    · intro y hy
      cases hy
  | some ad =>
    obtain ⟨g, rfl⟩ := own_ad h4
    obtain ⟨cur, hg, hcl, hct, hncap, hcmax, -, -⟩ := own_cur h4
    have hgP : P g := p3 g (by simp [Value.ownBlock])
    have hgl : g < w.heap.size := hlt g hgP
    have hgbt : bt ≠ g := by
      rintro rfl
      rw [h1] at hg
      simp at hg
    have hgmb : mb ≠ g := by
      rintro rfl
      rw [h2.at_] at hg
      cases hg
    have HMV : Hid (∀ (p : Po), okP B p → ∀ W, Fr (fun k => k = g) wb W → Calls Try.prog 9 #[p.v, .agg #[.int .i64 c.pos, .slice oa c.old.length oc, .slice na c.now.length nc]] W fun e w' => e = .returned (ansV (moveP p c)) ∧ Below W.heap.size W w') :=
      Lib.hid (fun p hp W hf => move_any p c oa na oc nc F W ((hn.below hbb).frF hf (fun k hk e => hd g hgP (by rw [← e]; exact hk))) (nearM_ok hp hB hcb) (ccb_ok hp))
    have HCUR := Lib.hid (And.intro hg (And.intro hcl (And.intro hct (And.intro h1 (And.intro hcbk hbb)))))
    have HK := Lib.hid (And.intro h2 (And.intro h3 (And.intro p3 hcmax)))
    obtain ⟨cb, hcbe⟩ : ∃ cb, w.heap.size = cb := ⟨_, rfl⟩
    have HCB := Lib.hid hcbe
    have hcbl : g < cb ∧ bt < cb ∧ mb < cb := by omega
    have hwbl : wb.heap.size = cb + 1 := by omega
    have HWBL := Lib.hid hwbl
    clear hg hcl hct h1 hcbk hbb h2 h3 p3 h4 hn hwb hnl hix hbsz hgl hmb hbt hwbl
    have tok : True := trivial
    go_enter Try.func34, Try.ntmps34
    go_upto_region 1 with fail
    rw [HWB.out]
    clear hcbe
    go_quiet (fail)
    go_wp2_with fail
    go_loopw [4, 5, 24] (fun kv xv iv wr => ∃ (i k x : Nat) (cur2 : List Value), iv = .int .i64 i ∧ kv = .slice (some ⟨g, 0, none⟩) k jc ∧ xv = .int .i64 x ∧ i ≤ n ∧ k ≤ i ∧ x ≤ 100 ∧ Hid (InvJ s c g jc cur wb wr i k x cur2)) (fun _ _ iv _ => n - (intOf iv).toNat)
    case atStart =>
      refine ⟨0, 0, ix, cur, rfl, rfl, rfl, Nat.zero_le _, Nat.le_refl _, by omega, ⟨?_, rfl, HCUR.out.1, HCUR.out.2.1, rfl, rfl, fr_drewN (Fr.refl _ wb) nq⟩⟩
      simp [ixJ, goneJ, HNL.out.2]
    case round =>
      obtain ⟨i, k, x, cur2, rfl, rfl, rfl, hin, hki, hx100, hinv⟩ := hrel
      have hfr := Lib.hid hinv.out.2.2.2.2.2.2
      obtain ⟨q1, q2, q3, q4, q5, q6⟩ := HCUR.out
      have f2 : wr.cell? ⟨bt, 2, none⟩ = some (.int .i64 ix) := by
        rw [World.cell?_of_block (a := ⟨bt, 2, none⟩) (hfr.out.block bt (heap_lt q4) hgbt), cell_row q4, HNL.out.2.symm]
        rfl
      have f0 : wr.cell? ⟨bt, 1, none⟩ = some (.slice (some ⟨g, 0, none⟩) n jc) := by
        rw [World.cell?_of_block (a := ⟨bt, 1, none⟩) (hfr.out.block bt (heap_lt q4) hgbt), cell_row q4, HNL.out.1.symm]
        rfl
      have f1 : wr.frozen? ⟨bt, 1, none⟩ = false := frozen_row ((hfr.out.block bt (heap_lt q4) hgbt).trans q4) 1
      have f3 : wr.frozen? ⟨bt, 2, none⟩ = false := frozen_row ((hfr.out.block bt (heap_lt q4) hgbt).trans q4) 2
      have hcbw : wr.heap[cb]? = some (.cells #[.int .i64 c.pos, .slice oa c.old.length oc, .slice na c.now.length nc] 26 (0, 0)) := by
        rw [HCB.out] at q5
        exact (hfr.out.block cb (by have := HWBL.out; omega) (by omega)).trans q5
      have c2 : wr.cell? ⟨cb, 0, none⟩ = some (.int .i64 c.pos) := by rw [cell_row hcbw]; rfl
      have c3 : wr.cell? ⟨cb, 1, none⟩ = some (.slice oa c.old.length oc) := by rw [cell_row hcbw]; rfl
      have c4 : wr.cell? ⟨cb, 2, none⟩ = some (.slice na c.now.length nc) := by rw [cell_row hcbw]; rfl
      have hbtw : bt < wr.heap.size := by have := heap_lt q4; have := hfr.out.size; omega
      have hgw : g < wr.heap.size := heap_lt hinv.out.2.2.1
      have hcbl2 : cb < wr.heap.size := heap_lt hcbw
      clear q1 q2 q3 q4 q5 q6 hcbw
      by_cases hlt : i < n
      · obtain ⟨p, hp⟩ : ∃ p, s.js.getD i po0 = p := ⟨_, rfl⟩
        have hpp : s.js[i]? = some p := by rw [← hp, List.getD_eq_getElem?_getD, List.getElem?_eq_getElem (by rw [HNL.out.1]; omega)]; rfl
        have hokp : okP B p := hjb p (List.mem_of_getElem? hpp)
        obtain ⟨c0, c1⟩ : wr.cell? ⟨g, i * 2, none⟩ = some (.int .i64 p.l) ∧ wr.cell? ⟨g, i * 2 + 1, none⟩ = some (.int .i64 p.c) := by
          obtain ⟨i0, i1, i2, i3, i4, i5, i6⟩ := hinv.out
          have rd : ∀ t, t < 2 → wr.cell? ⟨g, i * 2 + t, none⟩ = p.cells[t]? := by
            intro t ht
            rw [cell_row i2]
            have e1 : cur2.toArray[i * 2 + t]? = (cur2.drop (i * 2))[t]? := by simp
            rw [e1, i5, List.getElem?_drop, ← fl_at s.js i t p hpp ht, ← HCUR.out.2.2.1, List.getElem?_take, if_pos (by rw [HNL.out.1]; omega)]
          exact ⟨by simpa [Po.cells] using rd 0 (by omega), by simpa [Po.cells] using rd 1 (by omega)⟩
        have hmv1 := HMV.out p hokp
        obtain ⟨pl, pc⟩ := p
        have HPP := Lib.hid hpp
        clear hp hpp hokp
        have hb0 : Below wr.heap.size wr (wr.alloc (.cells #[.int .i64 pl, .int .i64 pc] 23)) := (Below.refl _ wr).alloc (Nat.le_refl _) _
        rcases hmp : moveP ⟨pl, pc⟩ c with _ | ⟨ql, qc⟩
        · rw [hmp] at hmv1
          simp only [ansV_none] at hmv1
          have HMP := Lib.hid hmp
          clear hmp
          by_cases hii : i < ix
          · have hi1 : decide ((i : Int) < (ix : Int)) = true := by simpa using hii
            have hx1 : 1 ≤ x := by
              rw [hinv.out.1]
              exact ixJ_pos HPP.out (by rw [HNL.out.2]; exact hii)
            obtain ⟨y, hy⟩ : ∃ y, x - 1 = y := ⟨_, rfl⟩
            have hy1 : (x : Int) - 1 = (y : Int) := by omega
            have HY := Lib.hid hy
            clear hy
            go_wp2_with (go_at_call 9; refine (hmv1 _ (hfr.out.alloc _)).mono ?_; rintro e w3 ⟨rfl, hb3⟩; have n2 := (hb3.cell (p := ⟨bt, 2, none⟩) (by simp; omega)).trans ((((Below.refl _ wr).alloc (Nat.le_refl _) _).cell (p := ⟨bt, 2, none⟩) hbtw).trans f2); have n3 : bt < w3.heap.size := (by have := hb3.size; simp at this; omega))
            go_roundw
            case rel =>
              have h9 := hinv.out.gone HPP.out HMP.out (hb0.trans ((hb3.mono (by simp)).alloc (o := .cells #[.int .i64 0, .int .i64 0] 23) (Nat.le_trans (by simp) hb3.size)))
              rw [if_pos (by rw [HNL.out.2]; exact hii), HY.out] at h9
              exact ⟨i + 1, k, y, cur2, by go_num, rfl, rfl, by omega, by omega, by have := HY.out; omega, h9⟩
            case measure => simp [intOf]; omega
          · have hi1 : decide ((i : Int) < (ix : Int)) = false := by simpa using hii
            go_wp2_with (go_at_call 9; refine (hmv1 _ (hfr.out.alloc _)).mono ?_; rintro e w3 ⟨rfl, hb3⟩; have n2 := (hb3.cell (p := ⟨bt, 2, none⟩) (by simp; omega)).trans ((((Below.refl _ wr).alloc (Nat.le_refl _) _).cell (p := ⟨bt, 2, none⟩) hbtw).trans f2); have n3 : bt < w3.heap.size := (by have := hb3.size; simp at this; omega))
            go_roundw
            case rel =>
              have h9 := hinv.out.gone HPP.out HMP.out (hb0.trans ((hb3.mono (by simp)).alloc (o := .cells #[.int .i64 0, .int .i64 0] 23) (Nat.le_trans (by simp) hb3.size)))
              rw [if_neg (by rw [HNL.out.2]; exact hii)] at h9
              exact ⟨i + 1, k, x, cur2, by go_num, rfl, rfl, by omega, by omega, hx100, h9⟩
            case measure => simp [intOf]; omega
        · rw [hmp] at hmv1
          simp only [ansV_some] at hmv1
          have HMP := Lib.hid hmp
          clear hmp
          go_upto_if 35 with (go_at_call 9; refine (hmv1 _ (hfr.out.alloc _)).mono ?_; rintro e w3 ⟨rfl, hb3⟩; have n2 := (hb3.cell (p := ⟨bt, 2, none⟩) (by simp; omega)).trans ((((Below.refl _ wr).alloc (Nat.le_refl _) _).cell (p := ⟨bt, 2, none⟩) hbtw).trans f2); have n3 : bt < w3.heap.size := (by have := hb3.size; simp at this; omega))
          obtain ⟨w4, hw4⟩ : ∃ w4, w3.alloc (.cells #[.int .i64 ql, .int .i64 qc] 23) = w4 := ⟨_, rfl⟩
          have k0 : w4.cell? ⟨w3.heap.size, 0, none⟩ = some (.int .i64 ql) := by rw [← hw4, cell_row (heap_alloc_new w3 _)]; rfl
          have k1 : w4.cell? ⟨w3.heap.size, 1, none⟩ = some (.int .i64 qc) := by rw [← hw4, cell_row (heap_alloc_new w3 _)]; rfl
          have hb4 : Below wr.heap.size wr w4 := by rw [← hw4]; exact hb0.trans ((hb3.mono (by simp)).alloc (Nat.le_trans (by simp) hb3.size) _)
          have hb5 : Below wr.heap.size wr (w4.alloc (.cells #[.int .i64 ql, .int .i64 qc] 23)) := hb4.alloc hb4.size _
          have hg5 := (hb5.block g hgw).trans hinv.out.2.2.1
          have hk1 : k + 1 ≤ jc := by have := HNL.out.1; omega
          obtain ⟨w6, hrun, hg6, hf6⟩ := run_append_in (P := Try.prog) (w4.alloc (.cells #[.int .i64 ql, .int .i64 qc] 23)) 37 23 2 Try.underlying37 szPo g k jc cur2 hg5 (some ⟨w4.heap.size, 0, none⟩) 1 1 [.int .i64 ql, .int .i64 qc] rfl
            (fun _ => ⟨_, rfl, src_of (off := 0) (m := 2) (cur := [.int .i64 ql, .int .i64 qc]) (heap_alloc_new w4 _)⟩) (fun v hv => fl_one1 [⟨ql, qc⟩] v (by simpa [fl, Po.cells] using hv)) hk1 (by rw [hinv.out.2.2.2.1]; simp; omega)
          have HRUN := Lib.hid hrun
          have HN := Lib.hid (hinv.out.kept HPP.out HMP.out hki hk1 hg6 ((Fr.of_below (fun k => k = g) hb5).trans hf6 (fun _ _ h => h)))
          rw [hw4]
          clear hw4 hrun hg6 hf6 hb5 hg5 hb4 n2
          go_wp2_with (at_builtin; go_must (with_reducible refine Lib.wpList_append_run _ rfl _ _ _ _ rfl _ _ rfl rfl _ _ (HRUN.out _) ?_))
          go_roundw
          case rel => exact ⟨i + 1, k + 1, x, _, by go_num, rfl, rfl, by omega, by omega, hx100, HN⟩
          case measure => simp [intOf]; omega
      · obtain rfl : i = n := by omega
        go_wp2
        go_end0
        obtain ⟨i0, i1, i2, i3, i4, i5, i6⟩ := hinv.out
        obtain ⟨q1, q2, q3, q4, q5, q6⟩ := HCUR.out
        obtain ⟨r1, r2, r3, r4⟩ := HK.out
        have hall : s.js.take i = s.js := List.take_of_length_le (by rw [HNL.out.1]; omega)
        rw [hall] at i1 i4
        have hx : x = s.ix - goneJ (s.js.take s.ix) c := by rw [i0]; unfold ixJ; rw [hall]
        have hbt0 := (i6.block bt (heap_lt q4) hgbt).trans q4
        have hw := heap_set (heap_set hbt0 1 (.slice (some ⟨g, 0, none⟩) k jc)) 2 (.int .i64 (x : Nat))
        have hfS : Fr (fun k => k = bt) wr ((wr.setCell ⟨bt, 1, none⟩ (.slice (some ⟨g, 0, none⟩) k jc)).setCell ⟨bt, 2, none⟩ (.int .i64 (x : Nat))) := ((Fr.refl (fun k => k = bt) wr).setCell ⟨bt, 1, none⟩ _ (fun _ => rfl)).setCell ⟨bt, 2, none⟩ _ (fun _ => rfl)
        have hfA : Fr P wb ((wr.setCell ⟨bt, 1, none⟩ (.slice (some ⟨g, 0, none⟩) k jc)).setCell ⟨bt, 2, none⟩ (.int .i64 (x : Nat))) := (i6.mono (fun y _ e => by rw [e]; exact hgP)).trans hfS (fun y _ e => by rw [e]; exact p1)
        have hgw2 := (hfS.block g (heap_lt i2) (fun e => hgbt e.symm)).trans i2
        refine ⟨rfl, P, ⟨mb, some ⟨g, 0, none⟩, jc, L, clock, ?_, ?_, r2, ?_, p1, p2, ?_, fun y hy => Nat.lt_of_lt_of_le (p4 y hy) hfA.size⟩, (Fr.of_below P q6).trans hfA (fun _ _ h => h), fun y hy => .inl hy⟩
        · rw [hw]
          simp [i1, hx]
        · have h1 := r1.fr i6 (fun e => hgmb e)
          refine h1.fr hfS (fun e => ?_)
          have hbm := h1.at_
          rw [e, hbt0] at hbm
          cases hbm
        · have h1 := own_of (B := 0) (n := k) (cap := jc) (size := 2) hgw2 (Nat.zero_le _) (by have := adjJ_le s.js c; omega) r4 (by rw [List.size_toArray, i3])
          rw [List.toList_toArray, i4] at h1
          show World.ownsRow _ 0 _ 2 (.slice _ (adjJ s.js c).length jc) (adjJ s.js c).length (fl (adjJ s.js c))
          rw [← i1]
          exact h1
        · intro y hy
          exact r3 y (by simpa [Value.ownBlock] using hy)
end Go.Proofs.Ytbgbhlnidabhnaa.U
