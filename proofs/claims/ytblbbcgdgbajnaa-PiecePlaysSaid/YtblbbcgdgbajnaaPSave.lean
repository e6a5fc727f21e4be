/-
  The contracts of Save, Back.
-/
import Derived.Test.YtblbbcgdgbajnaaPNew
namespace Go.Proofs.Ytblbbcgdgbajnaa.U
open Go.RowKit
set_option linter.unusedVariables false
set_option linter.unusedSimpArgs false

theorem infoRow : (Try.prog.info? 54).map (fun i => (i.zero, i.size, i.bytes)) = some (some (.agg #[.slice none 0 0, .int .i64 0, .bool false]), 3, 40) := by kernel_rfl

theorem flatR_one (ss : List (Value × List Pc)) (h : ∀ x ∈ ss, x.1.oneCell' = true) : ∀ u ∈ flatR ss, u.oneCell' = true := by
  intro u hu
  simp only [flatR, List.mem_flatMap, rowCells] at hu
  obtain ⟨x, hx, hu⟩ := hu
  simp only [List.mem_cons, List.not_mem_nil, or_false] at hu
  rcases hu with rfl | rfl | rfl
  · exact h x hx
  · rfl
  · rfl

/-- the row at hand is remembered -/
theorem tab_save {w w1 : World} {F : Nat → Prop} {bt : Nat} {D : TD} {sv' : Value} (h : TabOk w F bt D) (hT : TB w1 bt D.fv D.gv D.v (sumL D.ps : Nat) true sv') (ho : w1.ownsRow 0 54 3 sv' (D.ss.length + 1) (flatR D.ss ++ rowCells (D.v, D.ps)))
    (hf : Fr (fun k => k = bt ∨ own1 D.sv k) w w1) (hN : sv'.ownBlock = D.sv.ownBlock ∨ ∀ k, sv'.ownBlock = some k → w.heap.size ≤ k) : TabOk w1 (plus F w w1) bt { D with sv := sv', rem := true, ss := D.ss ++ [(D.v, D.ps)] } := by
  have far : ∀ {B sz n : Nat} {e : TypeId} {u : Value} {xs : List Value}, w.ownsRow B e sz u n xs → e ≠ 57 → e ≠ 54 → w1.ownsRow B e sz u n xs := fun ho h1 h2 =>
    own_fr ho hf (fun k hk => by
      rintro (e | e)
      · exact tb_ne h.tb ho h1 hk e
      · exact rows_apart ho h.so h2 hk e)
  have inn : ∀ {k : Nat}, F k → plus F w w1 k := fun hk => ⟨.inl hk, Nat.lt_of_lt_of_le (h.lt _ hk) hf.size⟩
  have ho' : w1.ownsRow 0 54 3 sv' (D.ss ++ [(D.v, D.ps)]).length (flatR (D.ss ++ [(D.v, D.ps)])) := by
    rw [flatR_snoc, List.length_append]
    exact ho
  refine { tb := hT, fo := far h.fo (by decide) (by decide), go := far h.go (by decide) (by decide), fg := h.fg, po := far h.po (by decide) (by decide), so := ho', each := ?_, inF := ?_, ok := h.ok, room := h.room, small := h.small, wf1 := h.wf1, wf2 := h.wf2, lt := fun k hk => hk.2 }
  · intro x hx
    rcases List.mem_append.1 hx with hx | hx
    · obtain ⟨h1, h2, h3⟩ := h.each x hx
      exact ⟨far h1 (by decide) (by decide), fun k hk => ⟨inn (h2 k hk).1, fun e => by cases e⟩, h3⟩
    · simp only [List.mem_singleton] at hx
      subst hx
      exact ⟨far h.po (by decide) (by decide), fun k hk => ⟨inn (h.inF.2.2.2.1 k hk), fun e => by cases e⟩, h.ok, h.room⟩
  · refine ⟨inn h.inF.1, fun k e => inn (h.inF.2.1 k e), fun k e => inn (h.inF.2.2.1 k e), fun k e => inn (h.inF.2.2.2.1 k e), fun k e => ⟨?_, (ho.lt k e).2⟩⟩
    rcases hN with e2 | e2
    · exact .inl (h.inF.2.2.2.2 k (e2.symm.trans e))
    · exact .inr (e2 k e)

set_option maxHeartbeats 1000000 in
theorem save_tab (bt : Nat) (F : Nat → Prop) (D : TD) (w : World) (h : TabOk w F bt D) (hbig : D.kept.length ≤ lim) :
    Calls Try.prog 20 #[.pointer (some ⟨bt, 0, none⟩)] w fun e w' => e = .returned (.int .i64 ((D.kept.length : Nat) + 1 : Int)) ∧ After w F bt D D.row (D.kept ++ [D.row]) 0 0 w' := by
  obtain ⟨i0, hi0, hz0, hz1, hz2⟩ := info_parts infoRow
  have hkl : D.kept.length = D.ss.length := by simp [TD.kept]
  rw [hkl] at hbig ⊢
  unfold lim at hbig
  obtain ⟨pa, pc, hv⟩ := own_slice h.po
  obtain ⟨sa, sc, hs⟩ := own_slice h.so
  have hlt := h.tb.lt
  have t4 : w.cell? ⟨bt, 4, none⟩ = some (.bool D.rem) := h.tb.c4
  have f4 := h.tb.fz 4
  obtain ⟨w1, hw1⟩ : ∃ w1, w.setCell ⟨bt, 4, none⟩ (.bool true) = w1 := ⟨_, rfl⟩
  have hT1 : TB w1 bt D.fv D.gv D.v (sumL D.ps : Nat) true D.sv := by rw [← hw1]; exact h.tb.set4 true
  have hF1 : Fr (· = bt) w w1 := by rw [← hw1]; exact (Fr.refl (· = bt) w).setCell _ _ (fun _ => rfl)
  have hO1 : w1.ownsRow 0 54 3 D.sv D.ss.length (flatR D.ss) := own_fr h.so hF1 (fun k hk => tb_ne h.tb h.so (by decide) hk)
  have HK : Hid (∀ W, Below w1.heap.size w1 W → W.heap[w1.heap.size]? = some (.cells #[.slice pa D.ps.length pc, .int .i64 (sumL D.ps : Nat), .bool true] 54 (0, 0)) →
      ∃ sa' sc' W', (∀ ty, (Builtin.append_ #[55, 55] ty #[.slice sa D.ss.length sc, .slice (some ⟨w1.heap.size, 0, none⟩) 1 1]).run Try.prog W = .ok (.slice sa' (D.ss.length + 1) sc') W') ∧
        TB W' bt D.fv D.gv D.v (sumL D.ps : Nat) true D.sv ∧ After w F bt D D.row (D.kept ++ [D.row]) 0 0 (W'.setCell ⟨bt, 5, none⟩ (.slice sa' (D.ss.length + 1) sc'))) := by
    intro W hW hh
    have hOW : W.ownsRow 0 54 3 D.sv D.ss.length (flatR D.ss) := own_fr hO1 (Fr.of_below (fun _ => False) hW) (fun _ _ h => h)
    have hTW : TB W bt D.fv D.gv D.v (sumL D.ps : Nat) true D.sv := hT1.below hW
    obtain ⟨v', W', hrun, hown, hfr, hnear⟩ := run_append_own_k (P := Try.prog) W 0 55 54 i0 _ 3 40 Try.underlying55 hi0 hz0 hz1 hz2 rfl (by decide) D.sv D.ss.length (flatR D.ss) hOW (some ⟨w1.heap.size, 0, none⟩) 1 1 (rowCells (D.v, D.ps)) rfl
      (fun _ => ⟨_, rfl, fun j u hu => by rw [add_lit, cell_row hh, Nat.zero_add]; rw [rowCells, hv] at hu; simpa using hu⟩)
      (by intro u hu; rw [rowCells, hv] at hu; simp only [List.mem_cons, List.not_mem_nil, or_false] at hu; rcases hu with rfl | rfl | rfl <;> rfl)
      (by unfold maxLen; omega) (by omega) (Nat.zero_le _)
    obtain ⟨sa', sc', rfl⟩ := own_slice hown
    have hTW' : TB W' bt D.fv D.gv D.v (sumL D.ps : Nat) true D.sv := hTW.keep (hfr.block bt hTW.lt (fun e => tb_ne hTW hOW (by decide) e.symm rfl))
    rw [hs] at hrun
    refine ⟨sa', sc', W', hrun, hTW', ?_⟩
    have hown5 : (W'.setCell ⟨bt, 5, none⟩ (.slice sa' (D.ss.length + 1) sc')).ownsRow 0 54 3 (.slice sa' (D.ss.length + 1) sc') (D.ss.length + 1) (flatR D.ss ++ rowCells (D.v, D.ps)) :=
      own_block hown (fun k hk => Below.heap_setCell _ _ _ _ (by exact tb_ne hTW' hown (by decide) hk))
    have hF5 : Fr (fun k => k = bt ∨ own1 D.sv k) w (W'.setCell ⟨bt, 5, none⟩ (.slice sa' (D.ss.length + 1) sc')) :=
      (((hF1.mono (fun _ _ e => .inl e)).trans (Fr.of_below (fun _ => False) hW) (fun _ _ h => h.elim)).trans hfr (fun _ _ e => .inr e)).setCell _ _ (fun _ => .inl rfl)
    have hsz : w.heap.size ≤ W.heap.size := Nat.le_trans hF1.size hW.size
    have hT' := tab_save h (hTW'.set5 _) hown5 hF5 (by
      rcases hnear with e | e
      · exact .inl e
      · exact .inr (fun k hk => by rw [e] at hk; cases hk; exact hsz))
    refine ⟨_, _, hT', rfl, ?_, Nat.le_add_right _ _, Nat.le_add_right _ _, hF5.mono ?_, fun k hk => hk.1⟩
    · show List.map _ (D.ss ++ [(D.v, D.ps)]) = _
      rw [List.map_append]
      rfl
    · rintro k hk (e | e)
      · subst e; exact h.inF.1
      · exact h.inF.2.2.2.2 k e.symm
  have d2 := hT1.c2
  have d3 := hT1.c3
  have d4 := hT1.c4
  have d5 := hT1.c5
  have l1 := hT1.lt
  rw [hv] at d2
  rw [hs] at d5
  generalize sumL D.ps = S at *
  generalize D.ps.length = NP at *
  obtain ⟨NS, hNS⟩ : ∃ NS, D.ss.length = NS := ⟨_, rfl⟩
  rw [hNS] at HK d5 hbig ⊢
  clear hT1 hF1 hO1 hs hv h hkl hNS
  go_enter Try.func20, Try.ntmps20
  go_wp2_with fail
  clear hw1 t4 f4
  obtain ⟨sa', sc', W', hrun, hTB, hA⟩ := HK.out (w1.alloc (.cells #[.slice pa NP pc, .int .i64 (S : Nat), .bool true] 54)).drew (((Below.refl _ w1).alloc (Nat.le_refl _) _).drew) (heap_alloc_new w1 _)
  have HRUN := Lib.hid hrun
  have HA := Lib.hid hA
  have e5 := hTB.c5
  have g5 := hTB.fz 5
  have m5 := hTB.lt
  have HTB := Lib.hid hTB
  clear hrun hA hTB
  go_region_law (refine step_append_run rfl (.tmp 13) (.tmp 18) _ _ rfl _ _ (by simp [Act.eval, Act.put]) (by simp [Act.eval, Act.put]) (HRUN.out _) ?_)
  all_goals
    go_wp2_with fail
    go_ret
    exact ⟨ret_int (by omega), HA.out⟩

/-- what is gone back to -/
theorem tab_back {w w1 : World} {F : Nat → Prop} {bt : Nat} {D : TD} {x : Value × List Pc} (h : TabOk w F bt D) (hx : x ∈ D.ss) (hT : TB w1 bt D.fv D.gv x.1 (sumL x.2 : Nat) true D.sv) (hf : Fr (fun k => k = bt) w w1) : TabOk w1 F bt { D with v := x.1, rem := true, ps := x.2 } := by
  have far : ∀ {B sz n : Nat} {e : TypeId} {u : Value} {xs : List Value}, w.ownsRow B e sz u n xs → e ≠ 57 → w1.ownsRow B e sz u n xs := fun ho h1 => own_fr ho hf (fun k hk => tb_ne h.tb ho h1 hk)
  obtain ⟨x1, x2, x3, x4⟩ := h.each x hx
  refine { tb := hT, fo := far h.fo (by decide), go := far h.go (by decide), fg := h.fg, po := far x1 (by decide), so := far h.so (by decide), each := ?_, inF := ?_, ok := x3, room := x4, small := h.small, wf1 := h.wf1, wf2 := h.wf2, lt := fun k hk => Nat.lt_of_lt_of_le (h.lt k hk) hf.size }
  · intro y hy
    obtain ⟨h1, h2, h3⟩ := h.each y hy
    exact ⟨far h1 (by decide), fun k hk => ⟨(h2 k hk).1, fun e => by cases e⟩, h3⟩
  · exact ⟨h.inF.1, h.inF.2.1, h.inF.2.2.1, fun k e => (x2 k e).1, h.inF.2.2.2.2⟩

/-- what Back tells, and what the row is then -/
def backM (L : List Int) (S : List (List Int)) (id : Int) : List Int × Int := if 1 ≤ id ∧ id ≤ S.length then (S.getD (id.toNat - 1) [], 0) else (L, 4)

theorem back_no (bt : Nat) (F : Nat → Prop) (D : TD) (id : Int) (w : World) (h : TabOk w F bt D) (hid : ¬ (1 ≤ id ∧ id ≤ D.kept.length)) :
    Calls Try.prog 21 #[.pointer (some ⟨bt, 0, none⟩), .int .i64 id] w fun e w' => e = .returned (.int .i64 4) ∧ w = w' := by
  have hkl : D.kept.length = D.ss.length := by simp [TD.kept]
  rw [hkl] at hid
  obtain ⟨sa, sc, hs⟩ := own_slice h.so
  have c5 := h.tb.c5
  rw [hs] at c5
  have hlt := h.tb.lt
  generalize D.ss.length = NS at *
  clear hs h hkl
  by_cases h1 : id < 1
  · clear hid
    go_enter Try.func21, Try.ntmps21
    go_wp2
    go_ret
    exact ⟨rfl, rfl⟩
  · have h2 : (NS : Int) < id := by omega
    have h1' : 1 ≤ id := by omega
    clear hid h1
    go_enter Try.func21, Try.ntmps21
    go_wp2
    go_ret
    exact ⟨rfl, rfl⟩

theorem back_ok (bt : Nat) (F : Nat → Prop) (D : TD) (k : Nat) (w : World) (h : TabOk w F bt D) (hk : k < D.kept.length) (hbig : D.kept.length ≤ lim) :
    Calls Try.prog 21 #[.pointer (some ⟨bt, 0, none⟩), .int .i64 ((k : Int) + 1)] w fun e w' => e = .returned (.int .i64 0) ∧ ∃ D', TabOk w' F bt D' ∧ D'.row = D.kept.getD k [] ∧ D'.kept = D.kept ∧ D'.gs = D.gs ∧ Fr (· = bt) w w' := by
  have hkl : D.kept.length = D.ss.length := by simp [TD.kept]
  rw [hkl] at hk hbig
  unfold lim at hbig
  have hx : D.ss[k]? = some D.ss[k] := List.getElem?_eq_getElem hk
  have hmem : D.ss[k] ∈ D.ss := List.getElem_mem hk
  have hrow : D.kept.getD k [] = cont D.fs D.gs D.ss[k].2 := by
    rw [List.getD_eq_getElem?_getD]
    unfold TD.kept
    rw [List.getElem?_map, hx]
    rfl
  rw [hrow]
  obtain ⟨x, hxe⟩ : ∃ x, D.ss[k] = x := ⟨_, rfl⟩
  rw [hxe] at hx hmem ⊢
  obtain ⟨va, vc, hv⟩ := own_slice (h.each x hmem).1
  obtain ⟨sa, sc, hs⟩ := own_slice h.so
  have hso := h.so
  rw [hs] at hso
  obtain ⟨g, rfl⟩ := own_some hso (by omega)
  obtain ⟨cur, hg, hcl, htake, hnc, hcm, -, -⟩ := own_cur hso
  have cells : ∀ j, j < 3 → w.cell? ⟨g, k * 3 + j, none⟩ = (rowCells x)[j]? := fun j hj => by
    rw [cell_row hg, ← flatR_at D.ss k j x hx hj, ← htake, List.getElem?_take, if_pos (by omega)]
    simp
  have q0 : w.cell? ⟨g, k * 3, none⟩ = some (.slice va x.2.length vc) := by rw [← hv]; exact cells 0 (by omega)
  have q1 : w.cell? ⟨g, k * 3 + 1, none⟩ = some (.int .i64 (sumL x.2 : Nat)) := cells 1 (by omega)
  have q2 : w.cell? ⟨g, k * 3 + 2, none⟩ = some (.bool true) := cells 2 (by omega)
  have hgl := heap_lt hg
  have hgb : g ≠ bt := tb_ne h.tb h.so (by decide) (by rw [hs]; rfl)
  have c2 := h.tb.c2
  have c3 := h.tb.c3
  have c4 := h.tb.c4
  have c5 := h.tb.c5
  rw [hs] at c5
  have f2 := h.tb.fz 2
  have f3 := h.tb.fz 3
  have f4 := h.tb.fz 4
  have hlt := h.tb.lt
  have HFIN : Hid (∀ w', w' = (((w.setCell ⟨bt, 2, none⟩ x.1).setCell ⟨bt, 3, none⟩ (.int .i64 (sumL x.2 : Nat))).setCell ⟨bt, 4, none⟩ (.bool true)) → ∃ D', TabOk w' F bt D' ∧ D'.row = cont D.fs D.gs x.2 ∧ D'.kept = D.kept ∧ D'.gs = D.gs ∧ Fr (· = bt) w w') := by
    rintro w' rfl
    have hF : Fr (· = bt) w (((w.setCell ⟨bt, 2, none⟩ x.1).setCell ⟨bt, 3, none⟩ (.int .i64 (sumL x.2 : Nat))).setCell ⟨bt, 4, none⟩ (.bool true)) := (((Fr.refl (· = bt) w).setCell ⟨bt, 2, none⟩ _ (fun _ => rfl)).setCell ⟨bt, 3, none⟩ _ (fun _ => rfl)).setCell ⟨bt, 4, none⟩ _ (fun _ => rfl)
    exact ⟨_, tab_back h hmem (((h.tb.set2 _).set3 _).set4 true) hF, rfl, rfl, rfl, hF⟩
  rw [hv] at HFIN
  clear cells hcl htake hg hso hs hv hmem hx hxe hkl hrow h
  generalize x.2.length = NX at *
  generalize sumL x.2 = SX at *
  generalize D.ss.length = NS at *
  have i1 : (0 : Int) ≤ (k : Int) := by omega
  have i2 : (k : Int) < (NS : Int) := by omega
  have i3 : (k : Int) + 1 ≤ (NS : Int) := by omega
  have i4 : ¬ ((k : Int) + 1 < 1) := by omega
  go_enter Try.func21, Try.ntmps21
  go_wp2
  go_ret
  exact ⟨rfl, HFIN.out _ rfl⟩

/-- behind Back: the bound on pieces is not kept -/
def AfterB (w : World) (F : Nat → Prop) (bt : Nat) (D : TD) (row : List Int) (kept : List (List Int)) (w' : World) : Prop :=
  ∃ F' D', TabOk w' F' bt D' ∧ D'.row = row ∧ D'.kept = kept ∧ D'.gs.length ≤ D.gs.length ∧ Fr F w w' ∧ ∀ k, F' k → F k ∨ w.heap.size ≤ k
theorem back_tab (bt : Nat) (F : Nat → Prop) (D : TD) (id : Int) (w : World) (h : TabOk w F bt D) (hbig : D.kept.length ≤ lim) :
    Calls Try.prog 21 #[.pointer (some ⟨bt, 0, none⟩), .int .i64 id] w fun e w' => e = .returned (.int .i64 (backM D.row D.kept id).2) ∧ AfterB w F bt D (backM D.row D.kept id).1 D.kept w' := by
  unfold backM
  by_cases hb : 1 ≤ id ∧ id ≤ D.kept.length
  · rw [if_pos hb]
    obtain ⟨k, rfl⟩ : ∃ k : Nat, id = (k : Int) + 1 := ⟨(id - 1).toNat, by omega⟩
    rw [show ((k : Int) + 1).toNat - 1 = k from by omega]
    refine (back_ok bt F D k w h (by omega) hbig).mono ?_
    rintro e w' ⟨rfl, D', h1, h2, h3, h4, h5⟩
    exact ⟨rfl, F, D', h1, h2, h3, by rw [h4]; exact Nat.le_refl _, h5.mono (fun k _ e => by subst e; exact h.inF.1), fun _ hk => .inl hk⟩
  · rw [if_neg hb]
    refine (back_no bt F D id w h hb).mono ?_
    rintro e w' ⟨rfl, rfl⟩
    exact ⟨rfl, F, D, h, rfl, rfl, Nat.le_refl _, Fr.refl _ _, fun _ hk => .inl hk⟩
end Go.Proofs.Ytblbbcgdgbajnaa.U
