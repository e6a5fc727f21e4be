/-
  The document's Forth, Push, Back.
-/
import Derived.Test.YtbgbhlnidabhnaaMRefB
namespace Go.Proofs.Ytbgbhlnidabhnaa.U
open Go.RowKit
set_option linter.unusedVariables false
set_option linter.unusedSimpArgs false
set_option maxRecDepth 100000

set_option maxHeartbeats 1000000 in
theorem rforth_any {P : Nat → Prop} {bx : Nat} {s : Ms} {B : Int} (w : World) (h : RkS P w bx s) (hok : s.ok B) :
    Calls Try.prog 24 #[.pointer (some ⟨bx, 0, none⟩)] w fun e w' => e = .returned (ansV (forthM s).2) ∧ AfR P w w' bx (forthM s).1 := by
  obtain ⟨w1, hw1⟩ : ∃ w1, w.alloc (.cells #[.int .i64 0, .int .i64 0] 23) = w1 := ⟨_, rfl⟩
  have hb1 : Below w.heap.size w w1 := by rw [← hw1]; exact (Below.refl _ w).alloc (Nat.le_refl _) _
  have d0 : w1.cell? ⟨w.heap.size, 0, none⟩ = some (.int .i64 0) := by rw [← hw1, cell_of_row _ _ _ _ _ _ (heap_alloc_new w _)]; rfl
  have d1 : w1.cell? ⟨w.heap.size, 1, none⟩ = some (.int .i64 0) := by rw [← hw1, cell_of_row _ _ _ _ _ _ (heap_alloc_new w _)]; rfl
  have z0 : ∀ i, w1.frozen? ⟨w.heap.size, i, none⟩ = false := fun i => by rw [← hw1]; exact frozen_row (heap_alloc_new w _) i
  have z00 := z0 0
  have z01 := z0 1
  have hsz1 : w1.heap.size = w.heap.size + 1 := by rw [← hw1]; simp
  obtain ⟨na, nc, ja, jc, h1, h2, h3, h4, h5, p1, p2⟩ := h.below hb1
  have hbx : bx < w.heap.size := h.lt bx p1
  have e1 : w1.cell? ⟨bx, 1, none⟩ = some (.slice ja s.js.length jc) := by rw [cell_row h1]; rfl
  have e2 : w1.cell? ⟨bx, 2, none⟩ = some (.int .i64 (s.ix : Nat)) := by rw [cell_row h1]; rfl
  have fz2 : w1.frozen? ⟨bx, 2, none⟩ = false := frozen_row h1 2
  have hl := hok.len
  have hx := hok.ix
  generalize hn : s.js.length = n at *
  generalize hxx : s.ix = x at *
  by_cases hc : n ≤ x + 1
  · have hs : forthM s = (s, none) := by simp [forthM, hn, hxx, hc]
    rw [hs]
    clear h1 h2 h3 h4 h5 z0 hn hxx hsz1 hs
    go_enter Try.func24, Try.ntmps24
    go_wp2
    go_quiet (fail)
    go_wp2
    refine bodyPost_ret (v := .tuple #[.agg #[.int .i64 0, .int .i64 0], .bool false]) ?_ rfl ⟨rfl, h.same ?_⟩
    · rw [results_ct rfl]
      go_simp
    · exact ((bdrewN hb1 _).setCell (Nat.le_refl _) _).setCell (Nat.le_refl _) _
  · have hs : forthM s = (⟨s.ns, s.js, x + 1⟩, some (s.js.getD (x + 1) po0)) := by simp [forthM, hn, hxx, hc]
    rw [hs]
    obtain ⟨b, off, rfl, hbl, hln, r0, r1⟩ := h4.po (i := x + 1) (Below.refl _ _) (by omega)
    have hbP : P b ∧ b ≠ bx := h5.at_ (by omega) rfl
    have hlow : b < w.heap.size := h.lt b hbP.1
    have hbne : ¬ b = bx := hbP.2
    have hbne2 : ¬ bx = b := fun e => hbne e.symm
    have hbs : ¬ b = w.heap.size := by omega
    have hbs2 : ¬ w.heap.size = b := by omega
    have hbts : ¬ bx = w.heap.size := by omega
    have hbts2 : ¬ w.heap.size = bx := by omega
    obtain ⟨q, hq⟩ : ∃ q, s.js.getD (x + 1) po0 = q := ⟨_, rfl⟩
    rw [hq] at r0 r1 ⊢
    clear h1 h2 h3 h4 h5 z0 hn hxx hsz1 hq hln hs hbP
    go_enter Try.func24, Try.ntmps24
    go_wp2
    go_quiet (fail)
    go_wp2
    go_region
    all_goals go_wp2
    all_goals (refine bodyPost_ret (v := .tuple #[.agg #[.int .i64 q.l, .int .i64 q.c], .bool true]) ?_ rfl ⟨rfl, ?_⟩)
    · rw [results_ct rfl]
      go_simp
    · refine h.stepIx (w1 := w1.drewN nq) (bdrewN hb1 nq) (x + 1) ?_
      have e : ((x + 1 : Nat) : Int) = (x : Int) + 1 := by omega
      rw [e]
      refine Below.drew (Below.setCell (Below.setCell (Below.refl _ _) ?_ _) ?_ _) <;> exact Nat.le_refl _

/-- append a place that has just been laid -/
theorem app_po (w : World) (B : Nat) (v : Value) (n : Nat) (xs : List Po) (l c : Int) (hown : w.ownsRow B 23 2 v n (fl xs)) (hB : B ≤ w.heap.size) (hn : n ≤ 1000) :
    ∃ a' c' w', (∀ ty, (Builtin.append_ #[37, 37] ty #[v, .slice (some ⟨w.heap.size, 0, none⟩) 1 1]).run Try.prog (w.alloc (.cells #[.int .i64 l, .int .i64 c] 23)) = .ok (.slice a' (n + 1) c') w') ∧ w'.ownsRow B 23 2 (.slice a' (n + 1) c') (n + 1) (fl (xs ++ [⟨l, c⟩])) ∧ Below B w w' := by
  obtain ⟨i0, hi0, hz0, hz1, hz2⟩ := info_parts infoPo
  have hb0 : Below w.heap.size w (w.alloc (.cells #[.int .i64 l, .int .i64 c] 23)) := (Below.refl _ w).alloc (Nat.le_refl _) _
  obtain ⟨v', w1, hrun, hown1, hfr, hnear⟩ := run_append_own_k (P := Try.prog) (w.alloc (.cells #[.int .i64 l, .int .i64 c] 23)) B 37 23 i0 _ 2 16 Try.underlying37 hi0 hz0 hz1 hz2 rfl (by decide) v n _ (hown.alloc _) (some ⟨w.heap.size, 0, none⟩) 1 1 [.int .i64 l, .int .i64 c] rfl
    (fun _ => ⟨_, rfl, src_of (off := 0) (m := 2) (cur := [.int .i64 l, .int .i64 c]) (heap_alloc_new w _)⟩) (fun u hu => fl_one1 [⟨l, c⟩] u (by simpa [fl, Po.cells] using hu)) (by unfold maxLen; omega) (by omega) (by simp; omega)
  obtain ⟨a', c', rfl⟩ := own_slice hown1
  refine ⟨a', c', w1, hrun, ?_, (hb0.mono hB).trans (hfr.below (by simp; omega) (fun k e => (hown.lt k e.symm).1))⟩
  rw [fl_append, fl_one]
  exact hown1
theorem rc_tail {w : World} {B g n c : Nat} {xs : List Po} (h : w.ownsRow B 23 2 (.slice (some ⟨g, 0, none⟩) n c) n (fl xs)) (hn : 1 ≤ n) : Rc w (some ⟨g, 2, none⟩) (n - 1) (c - 1) 2 (fl (xs.drop 1)) := by
  obtain ⟨cur, hg, hcl, hct, hnc, hcm, -, -⟩ := own_cur h
  have hx : (fl xs).length = n * 2 := by rw [← hct, List.length_take]; omega
  have hd : fl (xs.drop 1) = (fl xs).drop 2 := (fl_drop xs 1).symm
  refine ⟨by rw [hd, List.length_drop, hx]; omega, by omega, by omega, (fun e => by cases e), fun hp => ⟨g, 2, rfl, heap_lt hg, fun j u hu => ?_⟩⟩
  rw [hd, List.getElem?_drop, ← hct, List.getElem?_take] at hu
  split at hu
  · rw [cell_row hg]
    simpa using hu
  · cases hu
theorem notL_snoc (ln : Int) (js : List Po) (q : Po) : notL ln (js ++ [q]) = notL ln js ++ (if q.l = ln then [] else [q]) := by
  unfold notL
  rw [List.filter_append, List.filter_cons]
  by_cases h : q.l = ln <;> simp [h]
theorem RkS.setJ {P : Nat → Prop} {w w3 : World} {bx : Nat} {s : Ms} (h : RkS P w bx s) (hb : Below w.heap.size w w3) {a : Option Addr} {n c : Nat} {js : List Po} (hr : Rc w3 a n c 2 (fl js)) (hin : ∀ ad, 0 < n → a = some ad → w.heap.size ≤ ad.block) (m : Nat) :
    AfR P w ((w3.setCell ⟨bx, 1, none⟩ (.slice a n c)).setCell ⟨bx, 2, none⟩ (.int .i64 (m : Nat))) bx ⟨s.ns, js, m⟩ := by
  have hn : n = js.length := by have := hr.1; rw [fl_len] at this; omega
  subst hn
  obtain ⟨na, nc, ja, jc, q1, q2, q3, q4, q5, p1, p2⟩ := h.below hb
  have hbx : bx < w.heap.size := h.lt bx p1
  have hfS : Fr (fun k => k = bx) w3 ((w3.setCell ⟨bx, 1, none⟩ (.slice a js.length c)).setCell ⟨bx, 2, none⟩ (.int .i64 (m : Nat))) := ((Fr.refl (fun k => k = bx) w3).setCell ⟨bx, 1, none⟩ _ (fun _ => rfl)).setCell ⟨bx, 2, none⟩ _ (fun _ => rfl)
  have hset := heap_set (heap_set q1 1 (.slice a js.length c)) 2 (.int .i64 (m : Nat))
  have hin2 : InF (fun k => (P k ∨ (w.heap.size ≤ k ∧ k < w3.heap.size)) ∧ k ≠ bx) a js.length := by
    intro hp ad e
    have h1 := hin ad hp e
    obtain ⟨b, off, e2, hbl, _⟩ := hr.at_ hp
    rw [e2] at e
    cases e
    exact ⟨.inr ⟨h1, hbl⟩, by simp only at h1 ⊢; omega⟩
  refine ⟨fun k => P k ∨ (w.heap.size ≤ k ∧ k < w3.heap.size), ⟨na, nc, a, c, ?_, q2.frF q3 hfS (fun k hk => hk.2), q3.mono (fun k hk => ⟨.inl hk.1, hk.2⟩), hr.frF hin2 hfS (fun k hk => hk.2), hin2, .inl p1, ?_⟩, (Fr.of_below P hb).trans (hfS.mono (fun y _ e => by rw [e]; exact p1)) (fun _ _ h => h), ?_⟩
  · rw [hset]
    rfl
  · rintro k (hk | hk)
    · exact Nat.lt_of_lt_of_le (p2 k hk) hfS.size
    · exact Nat.lt_of_lt_of_le hk.2 hfS.size
  · rintro k (hk | hk)
    · exact .inl hk
    · exact .inr hk.1

set_option maxHeartbeats 2000000 in
theorem rpush_any {P : Nat → Prop} {bx : Nat} {s : Ms} {B : Int} (p : Po) (w : World) (h : RkS P w bx s) (hok : s.ok B) :
    Calls Try.prog 20 #[.pointer (some ⟨bx, 0, none⟩), p.v] w fun e w' => e = .returned (.tuple #[]) ∧ AfR P w w' bx (pushM s p) := by
  obtain ⟨pl, pc⟩ := p
  show Calls _ _ #[.pointer (some ⟨bx, 0, none⟩), .agg #[.int .i64 pl, .int .i64 pc]] w _
  obtain ⟨wb, hwb⟩ : ∃ wb, w.alloc (.cells #[.int .i64 pl, .int .i64 pc] 23) = wb := ⟨_, rfl⟩
  have hb1 : Below w.heap.size w wb := by rw [← hwb]; exact (Below.refl _ w).alloc (Nat.le_refl _) _
  have d0 : wb.cell? ⟨w.heap.size, 0, none⟩ = some (.int .i64 pl) := by rw [← hwb, cell_of_row _ _ _ _ _ _ (heap_alloc_new w _)]; rfl
  have d1 : wb.cell? ⟨w.heap.size, 1, none⟩ = some (.int .i64 pc) := by rw [← hwb, cell_of_row _ _ _ _ _ _ (heap_alloc_new w _)]; rfl
  have hsz : wb.heap.size = w.heap.size + 1 := by rw [← hwb]; simp
  obtain ⟨na, nc, ja, jc, h1, h2, h3, h4, h5, p1, p2⟩ := h.below hb1
  have hbx : bx < w.heap.size := h.lt bx p1
  have e1 : wb.cell? ⟨bx, 1, none⟩ = some (.slice ja s.js.length jc) := by rw [cell_row h1]; rfl
  have e2 : wb.cell? ⟨bx, 2, none⟩ = some (.int .i64 (s.ix : Nat)) := by rw [cell_row h1]; rfl
  have hfi := fits_any ⟨pl, pc⟩ wb
  obtain ⟨pb, hpb⟩ : ∃ pb, w.heap.size = pb := ⟨_, rfl⟩
  obtain ⟨n, hn⟩ : ∃ n, s.js.length = n := ⟨_, rfl⟩
  have hn100 : n ≤ 100 := by have := hok.len; omega
  rw [hn] at e1 h4
  rw [hpb] at d0 d1 hsz
  have HB := Lib.hid (And.intro hb1 (And.intro hpb (And.intro hsz hn)))
  have HROW := Lib.hid (And.intro h1 h4)
  have HWB := Lib.hid hwb
  have hbpb : bx < pb := by omega
  by_cases hf : fitsP ⟨pl, pc⟩ = true
  · rw [hf] at hfi
    have HFI := Lib.hid hfi
    have HFT := Lib.hid hf
    clear h1 h2 h3 h4 h5 hb1 hwb hfi hsz hn hf p2
    go_enter Try.func20, Try.ntmps20
    go_upto_region 1 with fail
    rw [HWB.out]
    clear hpb
    go_wp2_with (go_at_call 33; refine HFI.out.mono ?_; rintro e w3 ⟨rfl, hb3⟩)
    have HB3 := Lib.hid hb3
    clear hb3
    go_loopw [4, 5] (fun v iv wr => ∃ (a : Option Addr) (c k i : Nat), v = .slice a k c ∧ iv = .int .i64 i ∧ i ≤ n ∧ k ≤ i ∧ Hid (k = (notL pl (s.js.take i)).length ∧ Below (pb + 1) wb wr ∧ wr.ownsRow (pb + 1) 23 2 (.slice a k c) k (fl (notL pl (s.js.take i))))) (fun _ iv _ => n - (intOf iv).toNat)
    case atStart => exact ⟨none, 0, 0, 0, rfl, rfl, Nat.zero_le _, Nat.le_refl _, rfl, by have := HB3.out; rw [HB.out.2.2.1] at this; exact this, World.ownsRow_nil _ _ _ _⟩
    case round =>
      obtain ⟨a, c, k, i, rfl, rfl, hin, hki, HS⟩ := hrel
      have hbw := HS.out.2.1
      have f0 := (hbw.cell (p := ⟨pb, 0, none⟩) (by simp)).trans d0
      have f1 := (hbw.cell (p := ⟨pb, 1, none⟩) (by simp)).trans d1
      have g1 := (hbw.cell (p := ⟨bx, 1, none⟩) (by simp; omega)).trans e1
      have g2 := (hbw.cell (p := ⟨bx, 2, none⟩) (by simp; omega)).trans e2
      have z1 : wr.frozen? ⟨bx, 1, none⟩ = false := frozen_row ((hbw.block bx (by omega)).trans HROW.out.1) 1
      have z2 : wr.frozen? ⟨bx, 2, none⟩ = false := frozen_row ((hbw.block bx (by omega)).trans HROW.out.1) 2
      have hwl : pb + 1 ≤ wr.heap.size := by have := hbw.size; have := HB.out; omega
      clear hbw
      by_cases hlt : i < n
      · obtain ⟨b, off, rfl, hb, hl, c0, c1⟩ := HROW.out.2.po (W := wr) (by have := HS.out.2.1; rw [← HB.out.2.2.1] at this; exact this) hlt
        obtain ⟨q, hq⟩ : ∃ q, s.js.getD i po0 = q := ⟨_, rfl⟩
        have hgq : s.js[i]? = some q := by rw [← hq, List.getD_eq_getElem?_getD, List.getElem?_eq_getElem (by omega)]; rfl
        rw [hq] at c0 c1
        obtain ⟨ql, qc⟩ := q
        have htk : notL pl (s.js.take (i + 1)) = notL pl (s.js.take i) ++ (if ql = pl then [] else [⟨ql, qc⟩]) := by rw [take_snoc hgq, notL_snoc]
        have HTK := Lib.hid htk
        clear htk hgq hq hl
        by_cases hql : ql = pl
        · have hne : (ql != pl) = false := by simp [hql]
          have HQL := Lib.hid hql
          clear hql
          go_wp2
          go_quiet (fail)
          go_wp2
          refine ⟨⟨a, c, k, i + 1, rfl, by go_num, by omega, by omega, ?_⟩, by simp [intOf]; omega⟩
          show _ ∧ _ ∧ _
          rw [HTK.out, if_pos HQL.out, List.append_nil]
          exact ⟨HS.out.1, bdrewN HS.out.2.1 nq, HS.out.2.2⟩
        · have hne : (ql != pl) = true := by simpa using hql
          have HQL := Lib.hid hql
          clear hql
          go_wp2
          go_quiet (fail)
          go_upto_region 7 with fail
          obtain ⟨wz, hwz⟩ : ∃ wz, wr.drewN nq = wz := ⟨_, rfl⟩
          have c0z : wz.cell? ⟨b, off + i * 2, none⟩ = some (.int .i64 ql) := by rw [← hwz]; exact c0
          have c1z : wz.cell? ⟨b, off + i * 2 + 1, none⟩ = some (.int .i64 qc) := by rw [← hwz]; exact c1
          have g1z : wz.cell? ⟨bx, 1, none⟩ = some (.slice (some ⟨b, off, none⟩) n jc) := by rw [← hwz]; exact g1
          have hbz : Below (pb + 1) wb wz := by rw [← hwz]; exact bdrewN HS.out.2.1 nq
          have hoz : wz.ownsRow (pb + 1) 23 2 (.slice a k c) k (fl (notL pl (s.js.take i))) := by rw [← hwz]; exact HS.out.2.2
          obtain ⟨a', c', w6, hrun, hown6, hb6⟩ := app_po wz (pb + 1) (.slice a k c) k (notL pl (s.js.take i)) ql qc hoz (by rw [← hwz]; exact hwl) (by omega)
          have HRUN := Lib.hid hrun
          have HN : Hid (k + 1 = (notL pl (s.js.take (i + 1))).length ∧ Below (pb + 1) wb w6 ∧ w6.ownsRow (pb + 1) 23 2 (.slice a' (k + 1) c') (k + 1) (fl (notL pl (s.js.take (i + 1))))) := by
            show _ ∧ _ ∧ _
            rw [HTK.out, if_neg HQL.out]
            exact ⟨by rw [List.length_append, ← HS.out.1]; rfl, hbz.trans hb6, hown6⟩
          rw [hwz]
          clear hwz hbz hoz hrun hown6 hb6
          go_wp2_with (at_builtin; go_must (with_reducible refine Lib.wpList_append_run _ rfl _ _ _ _ rfl _ _ rfl rfl _ _ (HRUN.out _) ?_))
          go_roundw
          case rel => exact ⟨a', c', k + 1, i + 1, rfl, by go_num, by omega, by omega, HN⟩
          case measure => simp [intOf]; omega
      · obtain rfl : i = n := by omega
        obtain ⟨i0, i1, i2⟩ := HS.out
        rw [List.take_of_length_le (by rw [HB.out.2.2.2]; omega)] at i0 i2
        obtain ⟨a', c', w6, hrun, hown6, hb6⟩ := app_po wr (pb + 1) (.slice a k c) k (notL pl s.js) pl pc i2 hwl (by omega)
        have m1 := (hb6.cell (p := ⟨bx, 1, none⟩) (by simp; omega)).trans g1
        have m2 := (hb6.cell (p := ⟨bx, 2, none⟩) (by simp; omega)).trans g2
        have y1 : w6.frozen? ⟨bx, 1, none⟩ = false := frozen_row (((i1.trans hb6).block bx (by omega)).trans HROW.out.1) 1
        have y2 : w6.frozen? ⟨bx, 2, none⟩ = false := frozen_row (((i1.trans hb6).block bx (by omega)).trans HROW.out.1) 2
        have HRUN := Lib.hid hrun
        have HO := Lib.hid (And.intro i0 (And.intro (i1.trans hb6) hown6))
        clear i0 i1 i2 hrun hown6 hb6
        by_cases hk : k + 1 ≤ 100
        · go_wp2_with (at_builtin; go_must (with_reducible refine Lib.wpList_append_run _ rfl _ _ _ _ rfl _ _ rfl rfl _ _ (HRUN.out _) ?_))
          go_end0
          obtain ⟨i0, hbb, hown⟩ := HO.out
          have hj : pushJ s.js ⟨pl, pc⟩ = notL pl s.js ++ [⟨pl, pc⟩] := by
            unfold pushJ
            rw [if_neg (by rw [List.length_append, ← i0]; simp; omega)]
          have hp : pushM s ⟨pl, pc⟩ = ⟨s.ns, notL pl s.js ++ [⟨pl, pc⟩], k + 1⟩ := by
            unfold pushM
            rw [if_pos HFT.out, hj, List.length_append, ← i0]
            rfl
          rw [hp]
          have hbw : Below w.heap.size w w6 := HB.out.1.trans (hbb.mono (by have := HB.out; omega))
          refine ⟨rfl, ?_⟩
          have hfin := h.setJ hbw (Rc.own hown) (fun ad _ e => by
            subst e
            obtain ⟨g, rfl⟩ := own_ad hown
            have := (hown.lt g (by simp [Value.ownBlock])).1
            have := HB.out
            simp only
            omega) (k + 1)
          exact hfin
        · have hgg := own_some HO.out.2.2 (by omega)
          obtain ⟨g, rfl⟩ := hgg
          obtain ⟨cur, -, -, -, hnc, -, -, -⟩ := own_cur HO.out.2.2
          have hc1 : ¬ c' = 1 := by omega
          have hkk : (100 : Int) < (k : Int) + 1 := by omega
          have HKK := Lib.hid (show k + 1 = 101 by omega)
          go_wp2_with (at_builtin; go_must (with_reducible refine Lib.wpList_append_run _ rfl _ _ _ _ rfl _ _ rfl rfl _ _ (HRUN.out _) ?_))
          go_end0
          obtain ⟨i0, hbb, hown⟩ := HO.out
          have hj : pushJ s.js ⟨pl, pc⟩ = (notL pl s.js ++ [(⟨pl, pc⟩ : Po)]).drop 1 := by
            unfold pushJ
            rw [if_pos (by rw [List.length_append, ← i0]; simp; omega)]
          have hp : pushM s ⟨pl, pc⟩ = ⟨s.ns, (notL pl s.js ++ [(⟨pl, pc⟩ : Po)]).drop 1, k⟩ := by
            unfold pushM
            rw [if_pos HFT.out, hj, List.length_drop, List.length_append, ← i0]
            rfl
          rw [hp]
          have hbw : Below w.heap.size w w6 := HB.out.1.trans (hbb.mono (by have := HB.out; omega))
          refine ⟨rfl, ?_⟩
          have hfin := h.setJ hbw (rc_tail hown (by omega)) (fun ad _ e => by
            cases e
            have := (hown.lt g (by simp [Value.ownBlock])).1
            have := HB.out
            simp only
            omega) k
          rw [show k + 1 - 1 = k by omega] at hfin
          exact hfin
  · have hf' : fitsP ⟨pl, pc⟩ = false := by simpa using hf
    have hp : pushM s ⟨pl, pc⟩ = s := by simp [pushM, hf']
    rw [hf'] at hfi
    have HFI := Lib.hid hfi
    rw [hp]
    clear h1 h2 h3 h4 h5 hb1 hwb hfi hsz hn p2 hf hf' hp
    go_enter Try.func20, Try.ntmps20
    go_upto_region 1 with fail
    rw [HWB.out]
    clear hpb
    go_wp2_with (go_at_call 33; refine HFI.out.mono ?_; rintro e w3 ⟨rfl, hb3⟩)
    first | go_end0 | refine bodyPost_ret (results_none rfl _ _ _) rfl ?_
    exact ⟨rfl, h.same (HB.out.1.trans (hb3.mono HB.out.1.size))⟩
end Go.Proofs.Ytbgbhlnidabhnaa.U
