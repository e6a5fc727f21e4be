/-
  Pieces in memory; the contracts of piece.length, row.find, row.own.
-/
import Derived.Test.YtndlebopfojjeaaPPure
import Derived.Test.YtndlebopfojjeaaProg
import Derived.RegionTactic
import Derived.Deep.RegionWith
namespace Go.Proofs.Ytndlebopfojjeaa.U
open Go.RowKit
set_option linter.unusedVariables false
set_option linter.unusedSimpArgs false
set_option maxRecDepth 100000

def Pc.val (p : Pc) : Value := .agg #[.bool p.ad, .int .i64 p.fr, .int .i64 p.to]
def lim : Nat := 1099511627776
/-- A slice of pieces that can be read. -/
def RdP (w : World) (a : Option Addr) (len cap : Nat) (ps : List Pc) : Prop :=
  ps.length = len ∧ len ≤ cap ∧ cap ≤ maxLen ∧ (a = none → cap = 0) ∧
  (0 < len → ∃ b off, a = some ⟨b, off, none⟩ ∧ ∀ j u, (flatP ps)[j]? = some u → w.cell? ⟨b, off + j, none⟩ = some u)
theorem RdP.below {w w' : World} {a len cap ps} (h : RdP w a len cap ps) (hb : Below w.heap.size w w') : RdP w' a len cap ps := by
  obtain ⟨h1, h2, h3, h4, h5⟩ := h
  refine ⟨h1, h2, h3, h4, fun hp => ?_⟩
  obtain ⟨b, off, ha, hc⟩ := h5 hp
  refine ⟨b, off, ha, fun j u hu => ?_⟩
  have c := hc j u hu
  exact (hb.cell (p := ⟨b, off + j, none⟩) (block_lt_of_cell c)).trans c
theorem RdP.own {w : World} {B : Nat} {e : TypeId} {a : Option Addr} {n cap m : Nat} {ps : List Pc} (h : w.ownsRow B e 3 (.slice a n cap) m (flatP ps)) : RdP w a n cap ps := by
  obtain ⟨h1, h2⟩ := h
  rw [flatP_len] at h1
  rcases h2 with ⟨hv, hn⟩ | ⟨g, c, cur, hv, hg, hh, hnc, hcm, hcs, hx⟩
  · simp only [Value.slice.injEq] at hv
    obtain ⟨rfl, rfl, rfl⟩ := hv
    exact ⟨by omega, Nat.le_refl _, Nat.zero_le _, fun _ => rfl, fun h => by omega⟩
  · simp only [Value.slice.injEq] at hv
    obtain ⟨rfl, rfl, rfl⟩ := hv
    refine ⟨by omega, hnc, hcm, (fun hn0 => by cases hn0), fun hp => ⟨g, 0, rfl, fun j u hu => ?_⟩⟩
    have hj := (List.getElem?_eq_some_iff.1 hu).1
    rw [flatP_len] at hj
    rw [cell_of_row w g (0 + j) cur e (0, 0) hh, Nat.zero_add, ← hu, ← hx, List.getElem?_take, if_pos (by omega), ← Array.getElem?_toList]
theorem RdP.at_ {w : World} {a : Option Addr} {n cap : Nat} {ps : List Pc} (h : RdP w a n cap ps) (hn : 0 < n) : ∃ b off, a = some ⟨b, off, none⟩ ∧ b < w.heap.size ∧ ∀ i p, ps[i]? = some p →
    w.cell? ⟨b, off + i * 3, none⟩ = some (.bool p.ad) ∧ w.cell? ⟨b, off + i * 3 + 1, none⟩ = some (.int .i64 p.fr) ∧ w.cell? ⟨b, off + i * 3 + 2, none⟩ = some (.int .i64 p.to) := by
  obtain ⟨b, off, ha, hc⟩ := h.2.2.2.2 hn
  have key : ∀ i p, ps[i]? = some p → ∀ j u, j < 3 → p.cells[j]? = some u → w.cell? ⟨b, off + (i * 3 + j), none⟩ = some u := fun i p hp j u hj hu => hc _ _ (by rw [flatP_at ps i j p hp hj]; exact hu)
  have hp0 : ps[0]? = some (ps[0]'(by rw [h.1]; exact hn)) := List.getElem?_eq_getElem _
  refine ⟨b, off, ha, block_lt_of_cell (key 0 _ hp0 0 _ (by omega) rfl), fun i p hp => ⟨key i p hp 0 _ (by omega) rfl, key i p hp 1 _ (by omega) rfl, key i p hp 2 _ (by omega) rfl⟩⟩
theorem RdP.src {w : World} {a : Option Addr} {n cap : Nat} {ps : List Pc} (h : RdP w a n cap ps) (hn : 0 < n) : ∃ ad, a = some ad ∧ ∀ j u, (flatP ps)[j]? = some u → w.cell? (ad.add j) = some u := by
  obtain ⟨b, off, ha, hc⟩ := h.2.2.2.2 hn
  exact ⟨_, ha, fun j u hu => by rw [add_lit]; exact hc j u hu⟩

/-- a table's block -/
def TB (w : World) (bt : Nat) (f a p : Value) (len : Int) (rem : Bool) (s : Value) : Prop := w.heap[bt]? = some (.cells #[f, a, p, .int .i64 len, .bool rem, s] 102 (0, 0))
section
variable {w w' : World} {bt : Nat} {f a p : Value} {len : Int} {rem : Bool} {s : Value}
theorem TB.lt (h : TB w bt f a p len rem s) : bt < w.heap.size := heap_lt h
theorem TB.c0 (h : TB w bt f a p len rem s) : w.cell? ⟨bt, 0, none⟩ = some f := (cell_row h 0)
theorem TB.c1 (h : TB w bt f a p len rem s) : w.cell? ⟨bt, 1, none⟩ = some a := (cell_row h 1)
theorem TB.c2 (h : TB w bt f a p len rem s) : w.cell? ⟨bt, 2, none⟩ = some p := (cell_row h 2)
theorem TB.c3 (h : TB w bt f a p len rem s) : w.cell? ⟨bt, 3, none⟩ = some (.int .i64 len) := (cell_row h 3)
theorem TB.c4 (h : TB w bt f a p len rem s) : w.cell? ⟨bt, 4, none⟩ = some (.bool rem) := (cell_row h 4)
theorem TB.c5 (h : TB w bt f a p len rem s) : w.cell? ⟨bt, 5, none⟩ = some s := (cell_row h 5)
theorem TB.fz (h : TB w bt f a p len rem s) (i : Nat) : w.frozen? ⟨bt, i, none⟩ = false := frozen_row h i
theorem TB.keep (h : TB w bt f a p len rem s) (e : w'.heap[bt]? = w.heap[bt]?) : TB w' bt f a p len rem s := e.trans h
theorem TB.below (h : TB w bt f a p len rem s) (hb : Below w.heap.size w w') : TB w' bt f a p len rem s := h.keep (hb.block _ h.lt)
theorem TB.set1 (h : TB w bt f a p len rem s) (v : Value) : TB (w.setCell ⟨bt, 1, none⟩ v) bt f v p len rem s := heap_set h 1 v
theorem TB.set2 (h : TB w bt f a p len rem s) (v : Value) : TB (w.setCell ⟨bt, 2, none⟩ v) bt f a v len rem s := heap_set h 2 v
theorem TB.set3 (h : TB w bt f a p len rem s) (n : Int) : TB (w.setCell ⟨bt, 3, none⟩ (.int .i64 n)) bt f a p n rem s := heap_set h 3 _
theorem TB.set4 (h : TB w bt f a p len rem s) (b : Bool) : TB (w.setCell ⟨bt, 4, none⟩ (.bool b)) bt f a p len b s := heap_set h 4 _
theorem TB.set5 (h : TB w bt f a p len rem s) (v : Value) : TB (w.setCell ⟨bt, 5, none⟩ v) bt f a p len rem v := heap_set h 5 v
end

theorem infoP : (Try.prog.info? 105).map (fun i => (i.zero, i.size, i.bytes)) = some (some (.agg #[.bool false, .int .i64 0, .int .i64 0]), 3, 24) := by kernel_rfl
theorem szP : (Try.prog.info? 105).map (·.size) = some 3 := by kernel_rfl

theorem length_any (ad : Bool) (fr to : Nat) (w : World) (h1 : fr ≤ to) (h2 : to ≤ lim) :
    Calls Try.prog 68 #[.agg #[.bool ad, .int .i64 fr, .int .i64 to]] w fun e w' => e = .returned (.int .i64 ((to - fr : Nat) : Int)) ∧ w.alloc (.cells #[.bool ad, .int .i64 fr, .int .i64 to] 105) = w' := by
  have hw : ((to - fr : Nat) : Int) = (to : Int) - (fr : Int) := by omega
  unfold lim at h2
  go_enter Try.func68, Try.ntmps68
  go_wp2
  go_ret
  exact ⟨ret_int (by omega), rfl⟩

theorem own_not (bt : Nat) (f a p s : Value) (len : Int) (w : World) (h : TB w bt f a p len false s) :
    Calls Try.prog 69 #[.pointer (some ⟨bt, 2, none⟩)] w fun e w' => e = .returned (.tuple #[]) ∧ w = w' := by
  have c4 := h.c4
  have hlt := h.lt
  clear h
  go_enter Try.func69, Try.ntmps69
  go_wp2
  refine bodyPost_ret (results_none rfl _ _ _) rfl ?_
  exact ⟨rfl, rfl⟩

theorem makeP (w : World) (n : Nat) (hn : n ≤ 1073741824) : (Instr.makeSlice 97 (.int .i64 n) (.int .i64 n)).run Try.prog w = .ok (.slice (some ⟨w.heap.size, 0, none⟩) n n) (w.alloc (.cells (madeCells #[.bool false, .int .i64 0, .int .i64 0] (n * 3)) 105)) := by
  obtain ⟨i, hi, hz0, hz1, hz2⟩ := info_parts infoP
  have hr := run_make (P := Try.prog) w 97 105 i _ Try.underlying97 hi hz0 .i64 .i64 n n (by omega) (Int.le_refl _) (by rw [hz2]; omega) (by omega)
  simpa [hz1, Value.cells] using hr

/-- the list of pieces becomes the row's alone -/
theorem own_is (bt : Nat) (f a s : Value) (ap : Option Addr) (cp : Nat) (ps : List Pc) (len : Int) (w : World) (h : TB w bt f a (.slice ap ps.length cp) len true s) (hr : RdP w ap ps.length cp ps) (hn : ps.length ≤ 1073741824) :
    Calls Try.prog 69 #[.pointer (some ⟨bt, 2, none⟩)] w fun e w' => e = .returned (.tuple #[]) ∧
      TB w' bt f a (.slice (some ⟨w.heap.size, 0, none⟩) ps.length ps.length) len false s ∧ w'.ownsRow w.heap.size 105 3 (.slice (some ⟨w.heap.size, 0, none⟩) ps.length ps.length) ps.length (flatP ps) ∧ Fr (· = bt) w w' := by
  have c4 := h.c4
  have c2 := h.c2
  have hlt := h.lt
  obtain ⟨n, hnn⟩ : ∃ n, ps.length = n := ⟨_, rfl⟩
  rw [hnn] at h hr c2 hn ⊢
  have hmk := makeP w n hn
  have HN := Lib.hid hnn
  have HR := Lib.hid hr
  have H := Lib.hid h
  clear h hr hnn
  go_enter Try.func69, Try.ntmps69
  obtain ⟨w2, hrun, hg2, hf2⟩ := run_copy_any (P := Try.prog) (w.alloc (.cells (madeCells #[.bool false, .int .i64 0, .int .i64 0] (n * 3)) 105)) 97 97 105 3 Try.underlying97 szP
    (some ⟨w.heap.size, 0, none⟩) ap n n n cp w.heap.size 0 (madeCells #[.bool false, .int .i64 0, .int .i64 0] (n * 3)).toList 105 (by simpa using heap_alloc_new w _) (flatP ps)
    (by rw [flatP_len, HN.out, show Nat.min n n = n from Nat.min_self n])
    (fun hp => ⟨rfl, by
      rw [flatP_len, HN.out] at hp
      obtain ⟨ad, ha, hc⟩ := (HR.out.below ((Below.refl _ w).alloc (Nat.le_refl _) _)).src (by omega)
      exact ⟨ad, ha, hc⟩⟩) (by rw [flatP_len, HN.out, Array.length_toList, size_madeCells]; omega) (flatP_one1 ps)
  have HRUN := Lib.hid hrun
  have HG := Lib.hid hg2
  have HF := Lib.hid hf2
  have hbt : w2.heap[bt]? = w.heap[bt]? := (hf2.block bt (by simp; omega) (Nat.ne_of_lt hlt)).trans (Below.heap_alloc w _ bt hlt)
  have HT : Hid (TB w2 bt f a (.slice ap n cp) len true s) := H.out.keep hbt
  have e2 := HT.out.c2
  have e4 := HT.out.c4
  have f2 := HT.out.fz 2
  have f4 := HT.out.fz 4
  have hsz := hf2.size
  clear hrun hg2 hf2 hbt
  go_wp2_with (with_reducible refine wpList_copy_run _ rfl _ _ _ _ rfl _ _ rfl rfl (HRUN.out _) ?_)
  go_end0
  have hne : bt ≠ w.heap.size := Nat.ne_of_lt hlt
  refine ⟨rfl, (HT.out.set2 _).set4 false, ?_, ?_⟩
  · have h0 := HG.out
    rw [splice_all _ _ (by rw [flatP_len, HN.out, Array.length_toList, size_madeCells])] at h0
    have h1 := own_of (B := w.heap.size) (n := n) (cap := n) (size := 3) h0 (Nat.le_refl _) (Nat.le_refl _) (by unfold maxLen; omega) (by rw [List.size_toArray, flatP_len, HN.out])
    rw [List.take_of_length_le (by rw [flatP_len, HN.out]; omega)] at h1
    exact own_block h1 (fun k e => by
      simp only [Value.ownBlock, Option.some.injEq] at e
      subst e
      rw [Below.heap_setCell _ _ _ _ (by exact Ne.symm hne), Below.heap_setCell _ _ _ _ (by exact Ne.symm hne)])
  · have h0 : Fr (fun k => k = bt) w w2 := ((Fr.refl (fun k => k = bt) w).alloc _).trans HF.out (fun x hx e => absurd e (Nat.ne_of_lt hx))
    exact (h0.setCell ⟨bt, 2, none⟩ _ (fun _ => rfl)).setCell ⟨bt, 4, none⟩ _ (fun _ => rfl)
theorem findM_cons (p : Pc) (r : List Pc) (n : Nat) : findM (p :: r) n = if n < p.len then (0, n) else ((findM r (n - p.len)).1 + 1, (findM r (n - p.len)).2) := rfl

theorem find_done {ps : List Pc} {F : Nat × Nat} {i m : Nat} (h : F = ((findM (ps.drop i) m).1 + i, (findM (ps.drop i) m).2)) (hi : i < ps.length) {p : Pc} (hp : ps[i]? = some p) :
    (m < p.len → F = (i, m)) ∧ (¬ m < p.len → F = ((findM (ps.drop (i + 1)) (m - p.len)).1 + (i + 1), (findM (ps.drop (i + 1)) (m - p.len)).2)) := by
  obtain ⟨hi', e⟩ := List.getElem?_eq_some_iff.1 hp
  rw [List.drop_eq_getElem_cons hi', e, findM_cons] at h
  constructor
  · intro hm
    rw [if_pos hm] at h
    simpa using h
  · intro hm
    rw [if_neg hm] at h
    rw [h]
    simp only [Prod.mk.injEq, and_true]
    omega
theorem sum_drop {ps : List Pc} {i : Nat} {p : Pc} (hp : ps[i]? = some p) : sumL (ps.drop i) = p.len + sumL (ps.drop (i + 1)) := by
  obtain ⟨hi', e⟩ := List.getElem?_eq_some_iff.1 hp
  rw [List.drop_eq_getElem_cons hi', e, sumL_cons]

set_option maxHeartbeats 1000000 in
theorem find_any (bt : Nat) (f a s : Value) (ap : Option Addr) (cp : Nat) (ps : List Pc) (len : Int) (rem : Bool) (n : Nat) (w : World) (h : TB w bt f a (.slice ap ps.length cp) len rem s) (hr : RdP w ap ps.length cp ps)
    (hps : ∀ p ∈ ps, p.fr ≤ p.to ∧ p.to ≤ lim) (hn : n ≤ sumL ps) (hnl : n ≤ lim) :
    Calls Try.prog 78 #[.pointer (some ⟨bt, 2, none⟩), .int .i64 n] w fun e w' => e = .returned (.tuple #[.int .i64 ((findM ps n).1 : Nat), .int .i64 ((findM ps n).2 : Nat)]) ∧ Below w.heap.size w w' := by
  have c2 := h.c2
  have hlt := h.lt
  obtain ⟨L, hL⟩ : ∃ L, ps.length = L := ⟨_, rfl⟩
  rw [hL] at hr c2
  have hsm : L ≤ 9223372036854775807 := by have := hr.2.1; have := hr.2.2.1; unfold maxLen at this; omega
  unfold lim at hnl
  have HL := Lib.hid hL
  have HR := Lib.hid hr
  have H := Lib.hid h
  have HPS := Lib.hid hps
  have hs : sumL (ps.drop 0) = sumL ps := rfl
  have HN : Hid (n ≤ sumL ps) := hn
  obtain ⟨F, hF⟩ : ∃ F, findM ps n = F := ⟨_, rfl⟩
  have HF := Lib.hid hF
  rw [hF]
  clear h hr hL hps hs hn hF
  go_enter Try.func78, Try.ntmps78
  go_wp2_with fail
  go_loopw [1, 13] (fun v1 v13 wr => ∃ i m : Nat, v1 = .int .i64 m ∧ v13 = .int .i64 i ∧ i ≤ L ∧ m ≤ 1099511627776 ∧ Hid (F = ((findM (ps.drop i) m).1 + i, (findM (ps.drop i) m).2) ∧ m ≤ sumL (ps.drop i)) ∧ Below w.heap.size w wr) (fun _ v13 _ => L - (intOf v13).toNat)
  case atStart => exact ⟨0, n, rfl, rfl, Nat.zero_le _, hnl, ⟨HF.out.symm, HN.out⟩, Below.refl _ _⟩
  case round =>
    obtain ⟨i, m, rfl, rfl, hi, hm, hh, hb⟩ := hrel
    have hsz := hb.size
    by_cases hil : i < L
    · have hip : ps[i]? = some (ps[i]'(by have := HL.out; omega)) := List.getElem?_eq_getElem _
      obtain ⟨p, hp⟩ : ∃ p, ps[i]'(by have := HL.out; omega) = p := ⟨_, rfl⟩
      rw [hp] at hip
      obtain ⟨b, off, rfl, hbl, hc⟩ := HR.out.at_ (by omega)
      obtain ⟨c0, c1, c3⟩ := hc i p hip
      have d0 := (hb.cell (p := ⟨b, off + i * 3, none⟩) hbl).trans c0
      have d1 := (hb.cell (p := ⟨b, off + i * 3 + 1, none⟩) hbl).trans c1
      have d3 := (hb.cell (p := ⟨b, off + i * 3 + 2, none⟩) hbl).trans c3
      have hblw : b < wr.heap.size := by omega
      obtain ⟨q1, q2⟩ := HPS.out p (List.mem_of_getElem? hip)
      have HH := Lib.hid hh.out.1
      have HS := Lib.hid hh.out.2
      obtain ⟨k1, k2⟩ := find_done HH.out (by have := HL.out; omega) hip
      have hsd := sum_drop hip
      obtain ⟨ad, fr, to⟩ := p
      simp only [Pc.len] at k1 k2 hsd d0 d1 d3 q1 q2
      unfold lim at q2
      obtain ⟨d, hd⟩ : ∃ d, to - fr = d := ⟨_, rfl⟩
      rw [hd] at k1 k2 hsd
      have hlen : ∀ w, Calls Try.prog 68 #[.agg #[.bool ad, .int .i64 fr, .int .i64 to]] w fun e w' => e = .returned (.int .i64 (d : Nat)) ∧ w.alloc (.cells #[.bool ad, .int .i64 fr, .int .i64 to] 105) = w' := by
        intro w
        rw [← hd]
        exact length_any ad fr to w q1 (by unfold lim; exact q2)
      have hd2 : d ≤ 1099511627776 := by omega
      have HLEN := Lib.hid hlen
      have K1 := Lib.hid k1
      have K2 := Lib.hid k2
      have HSD := Lib.hid hsd
      clear hlen k1 k2 hsd hc c0 c1 c3 hip hp hd q1 q2 hh
      by_cases hmd : m < d
      · have hF := K1.out hmd
        subst hF
        go_wp2_with (go_at_call 68; refine (HLEN.out _).mono ?_; rintro e w' ⟨rfl, rfl⟩)
        go_ret2
        exact ⟨rfl, ((hb.alloc (by omega) _).alloc (by simp; omega) _)⟩
      · have hF := Lib.hid (K2.out hmd)
        have hmd' : d ≤ m := by omega
        go_wp2_with (go_at_call 68; refine (HLEN.out _).mono ?_; rintro e w' ⟨rfl, rfl⟩)
        go_roundw
        case rel => exact ⟨i + 1, m - d, by congr 1; omega, by go_num, by omega, by omega, ⟨hF.out, by have := HSD.out; have := HS.out; omega⟩, ((hb.alloc (by omega) _).alloc (by simp; omega) _).alloc (by simp; omega) _⟩
        case measure => simp [intOf]; omega
    · obtain rfl : i = L := by omega
      have hF : F = (i, 0) := by
        rw [hh.out.1, List.drop_eq_nil_of_le (by have := HL.out; omega)]
        simp [findM]
      subst hF
      have c2' : wr.cell? ⟨bt, 2, none⟩ = some (.slice ap i cp) := (hb.cell (p := ⟨bt, 2, none⟩) hlt).trans c2
      have hbtw : bt < wr.heap.size := by omega
      clear hh
      go_wp2_with fail
      go_ret2
      exact ⟨rfl, hb⟩
end Go.Proofs.Ytndlebopfojjeaa.U
