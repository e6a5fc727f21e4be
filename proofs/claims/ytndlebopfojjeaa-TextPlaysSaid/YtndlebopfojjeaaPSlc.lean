/-
  The contract of Slice.
-/
import Derived.Test.YtndlebopfojjeaaPNew
namespace Go.Proofs.Ytndlebopfojjeaa.U
open Go.RowKit
set_option linter.unusedVariables false
set_option linter.unusedSimpArgs false
set_option maxRecDepth 100000

theorem find_unique : ∀ (ps : List Pc) (i k x : Nat) (p : Pc), ps[i]? = some p → k < p.len → sumL (ps.take i) + k = x → findM ps x = (i, k)
  | q :: r, 0, k, x, p, hp, hk, hx => by
    simp at hp
    subst hp
    simp [sumL] at hx
    subst hx
    rw [findM_cons, if_pos hk]
  | q :: r, i + 1, k, x, p, hp, hk, hx => by
    simp only [List.take_succ_cons, sumL_cons] at hx
    have ih := find_unique r i k (x - q.len) p (by simpa using hp) hk (by omega)
    rw [findM_cons, if_neg (by omega), ih]
  | [], i, k, x, p, hp, hk, hx => by simp at hp

/-- what stands from a rune on, as far as its piece goes -/
theorem row_at {fs gs : List Int} {ps : List Pc} {x i k m : Nat} {p : Pc} (h : oks fs.length gs.length ps) (hx : x ≤ sumL ps) (hf : findM ps x = (i, k)) (hp : ps[i]? = some p) (hm : k + m ≤ p.len) :
    ((cont fs gs ps).drop x).take m = ((p.runes fs gs).drop k).take m := by
  obtain ⟨h1, h2, h3, h4⟩ := findM_spec ps x hx
  rw [hf] at h2
  simp only at h2
  obtain ⟨hi, e⟩ := List.getElem?_eq_some_iff.1 hp
  have e1 : ps = ps.take i ++ p :: ps.drop (i + 1) := by rw [← e, ← List.drop_eq_getElem_cons hi, List.take_append_drop]
  have hl := cont_len (h.take i)
  have hr := runes_len (fs := fs) (gs := gs) (h.at_ hp)
  conv => lhs; rw [e1]
  rw [cont_append, cont_cons, List.drop_append, List.drop_eq_nil_of_le (by omega), List.nil_append, hl, show x - sumL (ps.take i) = k from by omega, List.drop_append_of_le_length (by omega), List.take_append_of_le_length (by simp; omega)]
/-- the next rune's place -/
theorem find_next {nf na : Nat} {ps : List Pc} {x i k : Nat} {p : Pc} (h : oks nf na ps) (hx : x ≤ sumL ps) (hf : findM ps x = (i, k)) (hp : ps[i]? = some p) (hn : x + (p.len - k) < sumL ps) : findM ps (x + (p.len - k)) = (i + 1, 0) := by
  obtain ⟨h1, h2, h3, h4⟩ := findM_spec ps x hx
  rw [hf] at h2 h3
  simp only at h2 h3
  have hk := h3 p hp
  obtain ⟨hi, e⟩ := List.getElem?_eq_some_iff.1 hp
  have hs : sumL (ps.take (i + 1)) = sumL (ps.take i) + p.len := by rw [List.take_succ_eq_append_getElem hi, e, sumL_append, sumL_cons]; rfl
  have hi2 : i + 1 < ps.length := by
    by_cases hl : i + 1 < ps.length
    · exact hl
    · rw [List.take_of_length_le (by omega)] at hs
      omega
  have hq := h _ (List.getElem_mem hi2)
  exact find_unique ps (i + 1) 0 _ ps[i + 1] (List.getElem?_eq_getElem hi2) (by have := hq.1; unfold Pc.len; omega) (by omega)

theorem makeI (w : World) (n : Nat) (hn : n ≤ 1073741824) : (Instr.makeSlice 31 (.int .i64 n) (.int .i64 n)).run Try.prog w = .ok (.slice (some ⟨w.heap.size, 0, none⟩) n n) (w.alloc (.cells (madeCells #[.int .i32 0] n) 21)) := by
  obtain ⟨i, hi, hz0, hz1, hz2⟩ := info_parts infoI
  have hr := run_make (P := Try.prog) w 31 21 i _ Try.underlying31 hi hz0 .i64 .i64 n n (by omega) (Int.le_refl _) (by rw [hz2]; omega) (by omega)
  simpa [hz1, Value.cells] using hr

theorem slice_err (bt : Nat) (F : Nat → Prop) (D : TD) (i n : Int) (w : World) (h : TabOk w F bt D) (hi : -9223372036854775808 ≤ i ∧ i ≤ 9223372036854775807) (hn : -9223372036854775808 ≤ n ∧ n ≤ 9223372036854775807) (hb : hasB D.row.length i n = false) :
    Calls Try.prog 106 #[.pointer (some ⟨bt, 0, none⟩), .int .i64 i, .int .i64 n] w fun e w' => e = .returned (.tuple #[.slice none 0 0, .int .i64 2]) ∧ w = w' := by
  rw [h.len] at hb
  have hk := lacks_any bt D.fv D.gv D.v D.sv (sumL D.ps) D.rem i n w h.tb h.room hi hn
  rw [hb] at hk
  have HK := Lib.hid hk
  clear hk hb h
  go_enter Try.func106, Try.ntmps106
  go_wp2_with (go_at_call 107; refine HK.out.mono ?_; unfold codeB; simp only [Bool.false_eq_true, ↓reduceIte]; rintro e w' ⟨rfl, rfl⟩)
  go_ret2
  exact ⟨rfl, rfl⟩

/-- so many runes are there -/
def Fill (D : TD) (a n b dn : Nat) (W : World) : Prop := ∃ cur : List Value, W.heap[b]? = some (.cells cur.toArray 21 (0, 0)) ∧ cur.length = n ∧ cur.take dn = ((D.row.drop a).take dn).map (Value.int .i32)

theorem copy_step (D : TD) (a n B dn i wi g' : Nat) (ad : Bool) (fr tt : Nat) (W : World) (hfill : Fill D a n B dn W) (hok : oks D.fs.length D.gs.length D.ps) (ha : a + dn ≤ sumL D.ps) (hf : findM D.ps (a + dn) = (i, wi)) (hp : D.ps[i]? = some ⟨ad, fr, tt⟩) (hwi : wi < tt - fr) (hdn : dn < n)
    (hrd : Rd .i32 W (some ⟨g', fr, none⟩) (tt - fr) (tt - fr) (Pc.runes D.fs D.gs ⟨ad, fr, tt⟩)) :
    ∃ W', (∀ ty, (Builtin.copy_ #[31, 31] ty #[.slice (some ⟨B, dn, none⟩) (n - dn) (n - dn), .slice (some ⟨g', fr + wi, none⟩) (tt - fr - wi) (tt - fr - wi)]).run Try.prog W = .ok (goInt (Nat.min (tt - fr - wi) (n - dn))) W') ∧ Fill D a n B (dn + Nat.min (tt - fr - wi) (n - dn)) W' ∧ Fr (· = B) W W' := by
  obtain ⟨cur, hg, hcl, htake⟩ := hfill
  obtain ⟨m, hm⟩ : ∃ m, Nat.min (tt - fr - wi) (n - dn) = m := ⟨_, rfl⟩
  have hm1 : m ≤ tt - fr - wi := by rw [← hm]; exact Nat.min_le_left _ _
  have hm2 : m ≤ n - dn := by rw [← hm]; exact Nat.min_le_right _ _
  obtain ⟨b, off, hb, hc⟩ := hrd.2.2.2.2.2 (by omega)
  simp only [Option.some.injEq, Addr.mk.injEq, and_true] at hb
  obtain ⟨rfl, rfl⟩ := hb
  have hrl := hrd.1
  obtain ⟨R, hR⟩ : ∃ R, Pc.runes D.fs D.gs ⟨ad, fr, tt⟩ = R := ⟨_, rfl⟩
  rw [hR] at hrl hc
  have hnl : (((R.drop wi).take m).map (Value.int .i32)).length = m := by simp; omega
  rw [hm]
  obtain ⟨W', hrun, hg', hfr⟩ := run_copy_any (P := Try.prog) W 31 31 21 1 Try.underlying31 szI (some ⟨B, dn, none⟩) (some ⟨g', fr + wi, none⟩) (n - dn) (n - dn) (tt - fr - wi) (tt - fr - wi) B dn cur 21 hg (((R.drop wi).take m).map (Value.int .i32))
    (by rw [hnl, hm]; omega) (fun _ => ⟨rfl, _, rfl, fun j v hj => by
      rw [List.getElem?_map, List.getElem?_take] at hj
      split at hj
      · rw [List.getElem?_drop] at hj
        have hjl : wi + j < R.length := by omega
        rw [List.getElem?_eq_getElem hjl] at hj
        simp only [Option.map_some, Option.some.injEq] at hj
        subst hj
        have := hc (wi + j) (by omega)
        rw [List.getD_eq_getElem?_getD, List.getElem?_eq_getElem hjl] at this
        rw [add_lit, Nat.add_assoc]
        exact this
      · simp at hj⟩) (by rw [hnl, hcl]; omega) (ints1 _ _)
  rw [hm] at hrun
  refine ⟨W', hrun, ⟨_, hg', ?_, ?_⟩, hfr⟩
  · rw [length_splice _ _ _ (by rw [hnl, hcl]; omega), hcl]
  · have e := splice_take cur (((R.drop wi).take m).map (Value.int .i32)) dn (by omega)
    rw [hnl] at e
    rw [e, htake, ← List.map_append]
    congr 1
    have hra := row_at (m := m) hok ha hf hp (by unfold Pc.len; simp only; omega)
    rw [hR] at hra
    have : D.row = cont D.fs D.gs D.ps := rfl
    rw [List.take_add, List.drop_drop, this, hra]

set_option maxHeartbeats 4000000 in
theorem slice_ok (bt : Nat) (F : Nat → Prop) (D : TD) (a n : Nat) (w : World) (h : TabOk w F bt D) (hn : a + n ≤ D.row.length) (hbig : D.gs.length ≤ lim) :
    Calls Try.prog 106 #[.pointer (some ⟨bt, 0, none⟩), .int .i64 a, .int .i64 n] w fun e w' => e = .returned (.tuple #[.slice (some ⟨w.heap.size, 0, none⟩) n n, .int .i64 0]) ∧
      w'.ownsRow w.heap.size 21 1 (.slice (some ⟨w.heap.size, 0, none⟩) n n) n (((D.row.drop a).take n).map (Value.int .i32)) ∧ Below w.heap.size w w' := by
  have hl := h.len
  have hro := h.room
  rw [hl] at hn
  have hk := lacks_any bt D.fv D.gv D.v D.sv (sumL D.ps) D.rem a n w h.tb h.room (by omega) (by omega)
  rw [show hasB (sumL D.ps) a n = true from hasB_iff.2 ⟨by omega, by omega, by omega⟩] at hk
  have hmk := makeI w n (by omega)
  have hlims := h.ok.lims (by have := h.small; unfold lim; omega) hbig
  obtain ⟨pa, pc, hv⟩ := own_slice h.po
  obtain ⟨w0, hw0⟩ : ∃ w0, w.alloc (.cells (madeCells #[.int .i32 0] n) 21) = w0 := ⟨_, rfl⟩
  have hB0 : Below w.heap.size w w0 := by rw [← hw0]; exact (Below.refl _ w).alloc (Nat.le_refl _) _
  have hs0 : w0.heap.size = w.heap.size + 1 := by rw [← hw0]; simp
  have hfill0 : Fill D a n w.heap.size 0 w0 := ⟨(madeCells #[.int .i32 0] n).toList, by rw [← hw0]; simpa using heap_alloc_new w _, by rw [Array.length_toList, size_madeCells], by simp⟩
  have h0 := h.below hB0
  have hfind := find_any bt D.fv D.gv D.sv pa pc D.ps (sumL D.ps : Nat) D.rem a w0 (by have := h0.tb; rw [hv] at this; exact this) (RdP.own (by have := h0.po; rw [hv] at this; exact this)) hlims (by omega) (by unfold lim; omega)
  have hlt := h.tb.lt
  have HK := Lib.hid hk
  have HFI := Lib.hid hfind
  have HFILL0 := Lib.hid hfill0
  have HB0 := Lib.hid hB0
  have H := Lib.hid h
  have HL := Lib.hid hl
  have HV := Lib.hid hv
  have HLIM := Lib.hid hlims
  rw [hw0] at hmk
  obtain ⟨B, hB⟩ : ∃ B, w.heap.size = B := ⟨_, rfl⟩
  rw [hB] at HFILL0 HB0 hmk hs0 hlt ⊢
  obtain ⟨S, hS⟩ : ∃ S, sumL D.ps = S := ⟨_, rfl⟩
  rw [hS] at hn hro
  have HS := Lib.hid hS
  have HBE := Lib.hid hB
  clear hk hfind hfill0 hB0 h0 h hl hlims hw0 hB hS hv
  go_enter Try.func106, Try.ntmps106
  go_wp2_with (first
    | (go_at_call 107; refine HK.out.mono ?_; unfold codeB; simp only [↓reduceIte]; rintro e w' ⟨rfl, rfl⟩)
    | (go_at_call 78; refine HFI.out.mono ?_; rintro e w1 ⟨rfl, hb1⟩))
  have hp0 := (findM_spec D.ps a (by have := HS.out; omega)).1
  have hcnt := H.out.ok.count
  have hi0 : (findM D.ps a).1 ≤ 65536 := by have := HS.out; omega
  go_loopw [10, 11, 12] (fun s10 s11 s12 wr => ∃ i wi dn : Nat, s10 = .int .i64 i ∧ s11 = .int .i64 wi ∧ s12 = .int .i64 dn ∧ dn ≤ n ∧ i ≤ 65536 ∧ Hid (dn < n → findM D.ps (a + dn) = (i, wi)) ∧ Hid (Fill D a n B dn wr) ∧ Below B w wr) (fun _ _ s12 _ => n - (intOf s12).toNat)
  case atStart =>
    refine ⟨_, _, 0, rfl, rfl, rfl, Nat.zero_le _, hi0, (fun _ => by rw [Nat.add_zero]), ?_, HB0.out.trans (hb1.mono (by omega))⟩
    obtain ⟨cur, q1, q2, q3⟩ := HFILL0.out
    exact ⟨cur, (hb1.block B (by omega)).trans q1, q2, q3⟩
  case round =>
    obtain ⟨i, wi, dn, rfl, rfl, rfl, hdn, hi6, hfd, hfl, hbl⟩ := hrel
    have HBL : Hid (Below w.heap.size w wr) := by show Below _ _ _; rw [HBE.out]; exact hbl
    clear hp0 hcnt hi0 hbl HFILL0 hb1
    by_cases hlt2 : dn < n
    · have hff := hfd.out hlt2
      have hsx : a + dn < sumL D.ps := by have := HS.out; omega
      have hbg := findM_big D.ps (a + dn) hsx
      obtain ⟨z1, z2, z3, z4⟩ := findM_spec D.ps (a + dn) (by omega)
      rw [hff] at hbg z2 z3
      simp only at hbg z2 z3
      have hpi : D.ps[i]? = some D.ps[i] := List.getElem?_eq_getElem hbg
      have hwi := z3 _ hpi
      have hpok := H.out.ok _ (List.getElem_mem hbg)
      obtain ⟨p, hp⟩ : ∃ p, D.ps[i] = p := ⟨_, rfl⟩
      rw [hp] at hpi hwi hpok
      obtain ⟨ad, fr, tt⟩ := p
      have hpl := HLIM.out _ (List.mem_of_getElem? hpi)
      unfold lim at hpl
      simp only [Pc.len] at hwi hpl
      have hTr := H.out.below HBL.out
      have hpo := hTr.po
      rw [HV.out] at hpo
      obtain ⟨g, rfl⟩ := own_some hpo (by omega)
      obtain ⟨b', off', ha, hgl, hc⟩ := (RdP.own hpo).at_ (by omega)
      simp only [Option.some.injEq, Addr.mk.injEq, and_true] at ha
      obtain ⟨rfl, rfl⟩ := ha
      obtain ⟨c0, c1, c2⟩ := hc i _ hpi
      simp only [Nat.zero_add] at c0 c1 c2
      have t2 := hTr.tb.c2
      rw [HV.out] at t2
      have l2 := hTr.tb.lt
      have hBr : B < wr.heap.size := by have := HBL.out.size; obtain ⟨cur, q, _⟩ := hfl.out; exact heap_lt q
      have HCALL : Hid (∀ W, Below wr.heap.size wr W → Calls Try.prog 109 #[.pointer (some ⟨bt, 0, none⟩), .agg #[.bool ad, .int .i64 fr, .int .i64 tt]] W fun e w' => ∃ g' W', e = .returned (.slice (some ⟨g', fr, none⟩) (tt - fr) (tt - fr)) ∧
          (∀ ty, (Builtin.copy_ #[31, 31] ty #[.slice (some ⟨B, dn, none⟩) (n - dn) (n - dn), .slice (some ⟨g', fr + wi, none⟩) (tt - fr - wi) (tt - fr - wi)]).run Try.prog w' = .ok (goInt (Nat.min (tt - fr - wi) (n - dn))) W') ∧ Fill D a n B (dn + Nat.min (tt - fr - wi) (n - dn)) W' ∧ Below B w W') := by
        intro W hW
        refine (runes_is bt F D ad fr tt W (hTr.below hW) hpok hbig).mono ?_
        rintro e w' ⟨g', rfl, hrd, hF, hb'⟩
        have hfl' : Fill D a n B dn w' := by
          obtain ⟨cur, q1, q2, q3⟩ := hfl.out
          exact ⟨cur, (hb'.block B (by have := hW.size; omega)).trans ((hW.block B hBr).trans q1), q2, q3⟩
        obtain ⟨W', r1, r2, r3⟩ := copy_step D a n B dn i wi g' ad fr tt w' hfl' H.out.ok (by omega) hff hpi hwi hlt2 (hrd _ hb')
        refine ⟨g', W', rfl, r1, r2, ?_⟩
        have hall := ((HBL.out.trans (hW.mono HBL.out.size)).trans (hb'.mono (Nat.le_trans HBL.out.size hW.size)))
        rw [HBE.out] at hall
        exact hall.trans (r3.below (by have := hall.size; have := HBE.out; omega) (fun k e => by omega))
      have hnext : dn + Nat.min (tt - fr - wi) (n - dn) < n → findM D.ps (a + (dn + Nat.min (tt - fr - wi) (n - dn))) = (i + 1, 0) := by
        intro h
        have hm : Nat.min (tt - fr - wi) (n - dn) = tt - fr - wi := by
          by_cases e : tt - fr - wi ≤ n - dn
          · exact Nat.min_eq_left e
          · rw [show Nat.min (tt - fr - wi) (n - dn) = n - dn from Nat.min_eq_right (by omega)] at h; omega
        rw [hm] at h ⊢
        have := find_next H.out.ok (by omega) hff hpi (by unfold Pc.len; simp only; have := HS.out; omega)
        unfold Pc.len at this
        simp only at this
        rw [← Nat.add_assoc]
        exact this
      have HNEXT := Lib.hid hnext
      obtain ⟨m, hm⟩ : ∃ m, Nat.min (tt - fr - wi) (n - dn) = m := ⟨_, rfl⟩
      have hm1 : 0 < m := by rw [← hm]; show 0 < min _ _; omega
      have hm2 : m ≤ n - dn := by rw [← hm]; exact Nat.min_le_right _ _
      rw [hm] at HCALL HNEXT
      obtain ⟨NP, hNP⟩ : ∃ NP, D.ps.length = NP := ⟨_, rfl⟩
      rw [hNP] at t2 hbg
      have i1 : (0 : Int) ≤ (i : Int) := by omega
      have i2 : (i : Int) < (NP : Int) := by omega
      have i3 : (wi : Int) ≤ ((tt - fr : Nat) : Int) := by omega
      have i4 : (dn : Int) ≤ (n : Int) := by omega
      have i5 : ¬ (n = dn) := by omega
      have i6 : ¬ (tt - fr = wi) := by omega
      have i7 : wi ≤ tt - fr := by omega
      have i8 : IntKind.i64.wrap ((dn : Int) + (m : Int)) = (dn : Int) + (m : Int) := by rw [IntKind.wrap_i64]; omega
      have i9 : i < 65536 := by have := H.out.ok.count; have := HS.out; omega
      clear hff hsx z1 z2 z3 z4 hpi hwi hpok hp hpl hTr hpo hc hnext hm hfd hfl hNP
      go_wp2_with fail
      go_region_law (first
        | (refine step_copy_run rfl (.tmp 38) (.tmp 50) _ _ rfl _ _ (by simp [Act.eval, Act.put]) (by simp [Act.eval, Act.put]) (HRUN.out _) ?_)
        | (go_simp; go_at_call 109; refine (HCALL.out _ (by first | exact Below.refl _ _ | exact (Below.refl _ _).drew)).mono ?_; rintro e w2 ⟨g', W', rfl, hrun, hfl2, hbl2⟩; have HRUN := Lib.hid hrun; have HFL2 := Lib.hid hfl2; clear hrun hfl2))
      all_goals
        go_wp2_with fail
        go_roundw
        case rel => exact ⟨i + 1, 0, dn + m, by go_num, rfl, by go_num, by omega, by omega, HNEXT, HFL2, hbl2⟩
        case measure => simp [intOf]; omega
    · obtain rfl : dn = n := by omega
      have HFI2 : Hid (wr.ownsRow B 21 1 (.slice (some ⟨B, 0, none⟩) dn dn) dn (((D.row.drop a).take dn).map (Value.int .i32))) := by
        obtain ⟨cur, q1, q2, q3⟩ := hfl.out
        have h1 := own_of (B := B) (n := dn) (cap := dn) (size := 1) q1 (Nat.le_refl _) (Nat.le_refl _) (by unfold maxLen; omega) (by rw [List.size_toArray, q2, Nat.mul_one])
        rw [Nat.mul_one, show cur.toArray.toList.take dn = ((D.row.drop a).take dn).map (Value.int .i32) from q3] at h1
        exact h1
      have HBB := Lib.hid HBL.out
      rw [HBE.out] at HBB
      clear hfd hfl
      go_wp2_with fail
      go_ret2
      exact ⟨rfl, HFI2.out, HBB.out⟩

theorem slice_tab (bt : Nat) (F : Nat → Prop) (D : TD) (i n : Int) (w : World) (h : TabOk w F bt D) (hi : -9223372036854775808 ≤ i ∧ i ≤ 9223372036854775807) (hn : -9223372036854775808 ≤ n ∧ n ≤ 9223372036854775807) (hbig : D.gs.length ≤ lim) :
    Calls Try.prog 106 #[.pointer (some ⟨bt, 0, none⟩), .int .i64 i, .int .i64 n] w fun e w' => ∃ a c, e = .returned (.tuple #[.slice a (sliM D.row i n).1.length c, .int .i64 (sliM D.row i n).2]) ∧
      w'.ownsRow w.heap.size 21 1 (.slice a (sliM D.row i n).1.length c) (sliM D.row i n).1.length ((sliM D.row i n).1.map (Value.int .i32)) ∧ Below w.heap.size w w' := by
  unfold sliM
  cases hb : hasB D.row.length i n with
  | false =>
    simp only [Bool.false_eq_true, ↓reduceIte]
    refine (slice_err bt F D i n w h hi hn hb).mono ?_
    rintro e w' ⟨rfl, rfl⟩
    exact ⟨none, 0, rfl, World.ownsRow_nil _ _ _ _, Below.refl _ _⟩
  | true =>
    simp only [↓reduceIte]
    have hb' := hasB_iff.1 hb
    obtain ⟨a, rfl⟩ : ∃ m : Nat, i = m := ⟨i.toNat, by omega⟩
    obtain ⟨m, rfl⟩ : ∃ m : Nat, n = m := ⟨n.toNat, by omega⟩
    simp only [Int.toNat_natCast]
    have hl : ((D.row.drop a).take m).length = m := by simp; omega
    rw [hl]
    refine (slice_ok bt F D a m w h (by omega) hbig).mono ?_
    rintro e w' ⟨rfl, h1, h2⟩
    exact ⟨_, _, rfl, h1, h2⟩
end Go.Proofs.Ytndlebopfojjeaa.U
