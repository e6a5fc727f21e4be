/-
  Jumps, Forth, Push, Back.
-/
import Derived.Test.YtbgbhlnidabhnaaMOps
namespace Go.Proofs.Ytbgbhlnidabhnaa.U
open Go.RowKit
set_option linter.unusedVariables false
set_option linter.unusedSimpArgs false
set_option maxRecDepth 100000

section
variable {P : Nat → Prop} {w w' : World} {bt : Nat} {s : Ms}
theorem MkS.setIx (h : MkS P w bt s) (i : Nat) : MkS P (w.setCell ⟨bt, 2, none⟩ (.int .i64 (i : Nat))) bt ⟨s.ns, s.js, i⟩ := by
  obtain ⟨mb, ja, jc, L, clock, h1, h2, h3, h4, p1, p2, p3, p4⟩ := h
  have hne : mb ≠ bt := by
    rintro rfl
    rw [h2.at_] at h1
    cases h1
  have hf : Fr (fun k => k = bt) w (w.setCell ⟨bt, 2, none⟩ (.int .i64 (i : Nat))) := (Fr.refl _ w).setCell _ _ (fun _ => rfl)
  refine ⟨mb, ja, jc, L, clock, ?_, h2.fr hf hne, h3, own_fr h4 hf (fun k e => ?_), p1, p2, p3, fun k hk => by have := p4 k hk; simpa using this⟩
  · rw [heap_set h1]
    rfl
  · obtain ⟨cur, hc⟩ := own_heap h4 e
    rintro rfl
    rw [h1] at hc
    injection hc with hc
    injection hc with _ hc _
    exact absurd hc (by decide)
theorem fr_low {B : Nat} {a b : World} (h : Below B a b) : Fr (fun k => B ≤ k) a b := ⟨h.os, h.tape, h.output, h.size, fun i _ hi => h.block i (by omega)⟩
theorem MkS.stepIx {w1 : World} (h : MkS P w bt s) (hb : Below w.heap.size w w1) (i : Nat) (hw : Below w.heap.size (w1.setCell ⟨bt, 2, none⟩ (.int .i64 (i : Nat))) w') : AfM P w w' bt ⟨s.ns, s.js, i⟩ := by
  have hbt : P bt := by obtain ⟨_, _, _, _, _, _, _, _, _, p1, _⟩ := h; exact p1
  refine ⟨P, ((h.below hb).setIx i).fr (fr_low hw) (fun k hk => by have := h.lt k hk; omega), ?_, fun k hk => .inl hk⟩
  exact ((Fr.of_below P hb).setCell _ _ (fun _ => hbt)).trans (fr_low hw) (fun k hk hk2 => by omega)
/-- the cells of marks, and of the i-th jump -/
theorem MkS.cells (h : MkS P w bt s) : ∃ mb ja jc, w.cell? ⟨bt, 0, none⟩ = some (.map (some mb)) ∧ w.cell? ⟨bt, 1, none⟩ = some (.slice ja s.js.length jc) ∧ w.cell? ⟨bt, 2, none⟩ = some (.int .i64 (s.ix : Nat)) ∧ (∀ i, w.frozen? ⟨bt, i, none⟩ = false) ∧ bt < w.heap.size ∧ Rc w ja s.js.length jc 2 (fl s.js) ∧ (∀ b off, ja = some ⟨b, off, none⟩ → b ≠ bt) := by
  obtain ⟨mb, ja, jc, L, clock, h1, h2, h3, h4, p1, p2, p3, p4⟩ := h
  refine ⟨mb, ja, jc, by rw [cell_row h1]; rfl, by rw [cell_row h1]; rfl, by rw [cell_row h1]; rfl, frozen_row h1, heap_lt h1, Rc.own h4, fun b off e => ?_⟩
  subst e
  have hk : (Value.slice (some ⟨b, off, none⟩) s.js.length jc).ownBlock = some b := rfl
  obtain ⟨cur, hc⟩ := own_heap h4 hk
  rintro rfl
  rw [h1] at hc
  injection hc with hc
  injection hc with _ hc _
  exact absurd hc (by decide)
end

theorem jumps_any {P : Nat → Prop} {bt : Nat} {s : Ms} {B : Int} (w : World) (h : MkS P w bt s) (hok : s.ok B) :
    Calls Try.prog 25 #[.pointer (some ⟨bt, 0, none⟩)] w fun e w' => ∃ a c, e = .returned (.tuple #[.slice a s.js.length c, .int .i64 (s.ix : Nat)]) ∧ w'.ownsRow w.heap.size 23 2 (.slice a s.js.length c) s.js.length (fl s.js) ∧ Below w.heap.size w w' := by
  obtain ⟨mb, ja, jc, e0, e1, e2, fz, hbt, hrc, hja⟩ := h.cells
  have hl := hok.len
  have hcl : ∀ W : World, Below w.heap.size w W → Calls Try.prog 38 #[.slice ja s.js.length jc] W fun e w' => ∃ a' c', e = .returned (.slice a' s.js.length c') ∧ w'.ownsRow w.heap.size 23 2 (.slice a' s.js.length c') s.js.length (fl s.js) ∧ Below w.heap.size w w' ∧ w'.cell? ⟨bt, 2, none⟩ = some (.int .i64 (s.ix : Nat)) := fun W hW => by
    refine (clonePo_any ja _ jc s.js W (hrc.below hW) (by omega)).mono ?_
    rintro e w' ⟨a', c', rfl, ho, hb⟩
    have hb' := hW.trans (hb.mono hW.size)
    exact ⟨a', c', rfl, own_mono ho hW.size, hb', (hb'.cell (p := ⟨bt, 2, none⟩) hbt).trans e2⟩
  have HRC := Lib.hid hrc
  have HJA := Lib.hid hja
  have HFZ := Lib.hid fz
  clear hrc hja fz
  go_enter Try.func25, Try.ntmps25
  go_wp2
  go_region_with (go_at_call 38; refine (hcl _ (by first | exact Below.refl _ _ | exact (Below.refl _ _).drew)).mono ?_; rintro e w2 ⟨a', c', rfl, ho, hb2, k2⟩)
  all_goals go_wp2
  all_goals go_ret2
  all_goals exact ⟨a', c', rfl, ho, hb2⟩

set_option maxHeartbeats 1000000 in
theorem forth_any {P : Nat → Prop} {bt : Nat} {s : Ms} {B : Int} (w : World) (h : MkS P w bt s) (hok : s.ok B) :
    Calls Try.prog 23 #[.pointer (some ⟨bt, 0, none⟩)] w fun e w' => e = .returned (ansV (forthM s).2) ∧ AfM P w w' bt (forthM s).1 := by
  obtain ⟨w1, hw1⟩ : ∃ w1, w.alloc (.cells #[.int .i64 0, .int .i64 0] 23) = w1 := ⟨_, rfl⟩
  have hb1 : Below w.heap.size w w1 := by rw [← hw1]; exact (Below.refl _ w).alloc (Nat.le_refl _) _
  have c0 : w1.cell? ⟨w.heap.size, 0, none⟩ = some (.int .i64 0) := by rw [← hw1, cell_of_row _ _ _ _ _ _ (heap_alloc_new w _)]; rfl
  have c1 : w1.cell? ⟨w.heap.size, 1, none⟩ = some (.int .i64 0) := by rw [← hw1, cell_of_row _ _ _ _ _ _ (heap_alloc_new w _)]; rfl
  have z0 : ∀ i, w1.frozen? ⟨w.heap.size, i, none⟩ = false := fun i => by rw [← hw1]; exact frozen_row (heap_alloc_new w _) i
  have z00 := z0 0
  have z01 := z0 1
  have hsz1 : w1.heap.size = w.heap.size + 1 := by rw [← hw1]; simp
  obtain ⟨mb, ja, jc, e0, e1, e2, fz, hbt, hrc, hja⟩ := (h.below hb1).cells
  have hl := hok.len
  have hx := hok.ix
  have fz2 := fz 2
  generalize hn : s.js.length = n at *
  generalize hxx : s.ix = x at *
  by_cases hc : n ≤ x + 1
  · have hs : forthM s = (s, none) := by simp [forthM, hn, hxx, hc]
    rw [hs]
    have HFZ := Lib.hid fz
    have Z := Lib.hid z0
    have HHN := Lib.hid hn
    have HHX := Lib.hid hxx
    have HSZ := Lib.hid hsz1
    clear fz z0 hn hxx hsz1 hrc hja
    go_enter Try.func23, Try.ntmps23
    go_wp2
    go_quiet (fail)
    go_wp2
    refine bodyPost_ret (v := .tuple #[.agg #[.int .i64 0, .int .i64 0], .bool false]) ?_ rfl ⟨rfl, h.same ?_⟩
    · rw [results_ct rfl]
      go_simp
    · exact ((bdrewN hb1 _).setCell (Nat.le_refl _) _).setCell (Nat.le_refl _) _
  · have hs : forthM s = (⟨s.ns, s.js, x + 1⟩, some (s.js.getD (x + 1) po0)) := by simp [forthM, hn, hxx, hc]
    rw [hs]
    obtain ⟨b, off, rfl, hbl, hln, r0, r1⟩ := hrc.po (i := x + 1) (Below.refl _ _) (by omega)
    have hbne : b ≠ bt := hja b off rfl
    have hlow : b < w.heap.size := by
      obtain ⟨mb', ja', jc', L, clock, q1, q2, q3, q4, p1, p2, p3, p4⟩ := h
      have e1' : w1.cell? ⟨bt, 1, none⟩ = some (.slice ja' s.js.length jc') := (hb1.cell (p := ⟨bt, 1, none⟩) (heap_lt q1)).trans (by rw [cell_row q1]; rfl)
      rw [e1] at e1'
      simp only [Option.some.injEq, Value.slice.injEq] at e1'
      rw [← e1'.1] at q4
      exact (q4.lt b rfl).2
    have hbtl : bt < w.heap.size := h.lt bt (by obtain ⟨_, _, _, _, _, _, _, _, _, p1, _⟩ := h; exact p1)
    have hbs : ¬ b = w.heap.size := by omega
    have hbs2 : ¬ w.heap.size = b := by omega
    have hbts : ¬ bt = w.heap.size := by omega
    have hbts2 : ¬ w.heap.size = bt := by omega
    have hbne2 : ¬ bt = b := fun e => hbne e.symm
    obtain ⟨q, hq⟩ : ∃ q, s.js.getD (x + 1) po0 = q := ⟨_, rfl⟩
    rw [hq] at r0 r1 ⊢
    have HM : MkS P w1 bt s := h.below hb1
    have HFZ := Lib.hid fz
    have Z := Lib.hid z0
    have HHN := Lib.hid hn
    have HHX := Lib.hid hxx
    have HSZ := Lib.hid hsz1
    have HQ := Lib.hid hq
    clear fz z0 hn hxx hsz1 hrc hja hq hln
    go_enter Try.func23, Try.ntmps23
    go_wp2
    go_quiet (fail)
    go_wp2
    go_region
    all_goals go_wp2
    all_goals (refine bodyPost_ret (v := .tuple #[.agg #[.int .i64 q.l, .int .i64 q.c], .bool true]) ?_ rfl ⟨rfl, ?_⟩)
    · rw [results_ct rfl]
      go_simp
    · refine h.stepIx (w1 := w1.drewN nq) (bdrewN hb1 nq) (x + 1) ?_
      have e : ((x + 1 : Nat) : Int) = (x : Int) + 1 := by omega
      rw [e]
      refine Below.drew (Below.setCell (Below.setCell (Below.refl _ _) ?_ _) ?_ _) <;> exact Nat.le_refl _

theorem AfM.setIx {P : Nat → Prop} {w : World} {bt : Nat} {s : Ms} (h : MkS P w bt s) (i : Nat) : AfM P w (w.setCell ⟨bt, 2, none⟩ (.int .i64 (i : Nat))) bt ⟨s.ns, s.js, i⟩ :=
  h.stepIx (Below.refl _ _) i (Below.refl _ _)
theorem AfM.setJ1 {P : Nat → Prop} {w w' : World} {bt : Nat} {s : Ms} (h : MkS P w bt s) {ja : Option Addr} {jc : Nat} (he1 : w.cell? ⟨bt, 1, none⟩ = some (.slice ja s.js.length jc))
    {a : Option Addr} {c n : Nat} {js : List Po} (hf : Fr (fun k => some k = (Value.slice ja s.js.length jc).ownBlock) w w') (ho : w'.ownsRow 0 23 2 (.slice a n c) n (fl js)) (hn : ∀ k, (Value.slice a n c).ownBlock = some k → some k = (Value.slice ja s.js.length jc).ownBlock ∨ w.heap.size ≤ k) :
    AfM P w (w'.setCell ⟨bt, 1, none⟩ (.slice a n c)) bt ⟨s.ns, js, s.ix⟩ := by
  have hln : n = js.length := by have := ho.1; rw [fl_len] at this; omega
  subst hln
  obtain ⟨mb', ja', jc', L, clock, h1, h2, h3, h4, p1, p2, p3, p4⟩ := h
  rw [cell_row h1] at he1
  simp at he1
  obtain ⟨rfl, rfl⟩ := he1
  have rowne : ∀ k, some k = (Value.slice ja' s.js.length jc').ownBlock → k ≠ bt := by
    intro k e
    obtain ⟨cur, hc⟩ := own_heap h4 e.symm
    rintro rfl
    rw [h1] at hc
    injection hc with hc
    injection hc with _ hc _
    exact absurd hc (by decide)
  have rowmb : ∀ k, some k = (Value.slice ja' s.js.length jc').ownBlock → k ≠ mb' := by
    intro k e
    obtain ⟨cur, hc⟩ := own_heap h4 e.symm
    rintro rfl
    rw [h2.at_] at hc
    cases hc
  have hbt := (hf.block bt (heap_lt h1) (fun e => rowne bt e rfl)).trans h1
  have hmb := h2.fr hf (fun e => rowmb mb' e rfl)
  have hmbne : mb' ≠ bt := by
    rintro rfl
    rw [h2.at_] at h1
    cases h1
  have hf2 : Fr (fun k => k = bt) w' (w'.setCell ⟨bt, 1, none⟩ (.slice a js.length c)) := (Fr.refl (fun k => k = bt) w').setCell ⟨bt, 1, none⟩ _ (fun _ => rfl)
  refine ⟨fun k => P k ∨ (w.heap.size ≤ k ∧ k < w'.heap.size), ⟨mb', a, c, L, clock, ?_, hmb.fr hf2 hmbne, h3, own_fr ho hf2 (fun k e => ?_), .inl p1, .inl p2, fun k e => ?_, fun k hk => ?_⟩, ?_, fun k hk => ?_⟩
  · rw [heap_set hbt _ _]
    rfl
  · obtain ⟨cur, hc⟩ := own_heap ho e
    rintro rfl
    rw [hbt] at hc
    injection hc with hc
    injection hc with _ hc _
    exact absurd hc (by decide)
  · rcases hn k e with h | h
    · exact .inl (p3 k h.symm)
    · exact .inr ⟨h, (ho.lt k e).2⟩
  · have hs := hf.size
    rcases hk with hk | hk
    · have := p4 k hk
      simp
      omega
    · simp
      omega
  · exact (hf.mono (G := P) (fun k _ e => p3 k e.symm)).setCell _ _ (fun _ => p1)
  · exact hk.imp id (fun h => h.1)
theorem pushJ_len {js : List Po} (h : js.length ≤ 100) (p : Po) : (pushJ js p).length ≤ 100 ∧ 0 < (pushJ js p).length := by
  have h1 : (notL p.l js).length ≤ js.length := List.length_filter_le _ _
  unfold pushJ
  split
  · simp only [List.length_drop, List.length_append, List.length_cons, List.length_nil] at *; omega
  · simp only [List.length_append, List.length_cons, List.length_nil] at *; omega

set_option maxHeartbeats 2000000 in
theorem push_any {P : Nat → Prop} {bt : Nat} {s : Ms} {B : Int} (p : Po) (w : World) (h : MkS P w bt s) (hok : s.ok B) :
    Calls Try.prog 19 #[.pointer (some ⟨bt, 0, none⟩), p.v] w fun e w' => e = .returned (.tuple #[]) ∧ AfM P w w' bt (pushM s p) := by
  obtain ⟨l, c⟩ := p
  show Calls _ _ #[.pointer (some ⟨bt, 0, none⟩), .agg #[.int .i64 l, .int .i64 c]] w _
  obtain ⟨w1, hw1⟩ : ∃ w1, w.alloc (.cells #[.int .i64 l, .int .i64 c] 23) = w1 := ⟨_, rfl⟩
  have hb1 : Below w.heap.size w w1 := by rw [← hw1]; exact (Below.refl _ w).alloc (Nat.le_refl _) _
  have c0 : w1.cell? ⟨w.heap.size, 0, none⟩ = some (.int .i64 l) := by rw [← hw1, cell_of_row _ _ _ _ _ _ (heap_alloc_new w _)]; rfl
  have c1 : w1.cell? ⟨w.heap.size, 1, none⟩ = some (.int .i64 c) := by rw [← hw1, cell_of_row _ _ _ _ _ _ (heap_alloc_new w _)]; rfl
  have hsz1 : w1.heap.size = w.heap.size + 1 := by rw [← hw1]; simp
  by_cases hf : fitsP ⟨l, c⟩ = true
  · have hs : pushM s ⟨l, c⟩ = ⟨s.ns, pushJ s.js ⟨l, c⟩, (pushJ s.js ⟨l, c⟩).length⟩ := by simp [pushM, hf]
    rw [hs]
    have hl := hok.len
    obtain ⟨js1, hjs1⟩ : ∃ js1, notL l s.js = js1 := ⟨_, rfl⟩
    obtain ⟨m, hm⟩ : ∃ m, js1.length = m := ⟨_, rfl⟩
    have hmn : m ≤ s.js.length := by rw [← hm, ← hjs1]; exact List.length_filter_le _ _
    obtain ⟨n, hn⟩ : ∃ n, s.js.length = n := ⟨_, rfl⟩
    -- where isNear leaves the world, what DeleteFunc does
    have hdel : ∀ w3 : World, Below w1.heap.size w1 w3 → ∃ mb ja jc, MkS P w3 bt s ∧ w3.cell? ⟨bt, 1, none⟩ = some (.slice ja n jc) ∧ w3.cell? ⟨w.heap.size, 0, none⟩ = some (.int .i64 l) ∧ w3.cell? ⟨w.heap.size, 1, none⟩ = some (.int .i64 c) ∧ (∀ i, w3.frozen? ⟨bt, i, none⟩ = false) ∧ w3.cell? ⟨bt, 2, none⟩ = some mb ∧
        Calls Try.prog 35 #[.slice ja n jc, .func (.func 36) #[] #[.pointer (some ⟨w.heap.size, 0, none⟩)]] w3 fun e w4 =>
          e = .returned (.slice ja m jc) ∧ ∃ a' c' w5, Hid (∀ ty, (Builtin.append_ #[37, 37] ty #[.slice ja m jc, .slice (some ⟨w4.heap.size, 0, none⟩) 1 1]).run Try.prog (w4.alloc (.cells #[.int .i64 l, .int .i64 c] 23)) = .ok (.slice a' (m + 1) c') w5) ∧
            w4.cell? ⟨w.heap.size, 0, none⟩ = some (.int .i64 l) ∧ w4.cell? ⟨w.heap.size, 1, none⟩ = some (.int .i64 c) ∧ w5.cell? ⟨bt, 1, none⟩ = some (.slice ja n jc) ∧ w5.frozen? ⟨bt, 1, none⟩ = false ∧ w5.cell? ⟨bt, 2, none⟩ = some mb ∧ w5.frozen? ⟨bt, 2, none⟩ = false ∧
            Hid (w5.ownsRow 0 23 2 (.slice a' (m + 1) c') (m + 1) (fl (js1 ++ [⟨l, c⟩]))) ∧ Hid (AfM P w (w5.setCell ⟨bt, 1, none⟩ (.slice a' (m + 1) c')) bt ⟨s.ns, js1 ++ [⟨l, c⟩], s.ix⟩) ∧
            (1 ≤ m → Hid (Calls Try.prog 37 #[.slice a' (m + 1) c', .int .i64 0, .int .i64 1] (w5.setCell ⟨bt, 1, none⟩ (.slice a' (m + 1) c')) fun e w7 => e = .returned (.slice a' m c') ∧ w7.cell? ⟨bt, 1, none⟩ = some (.slice a' (m + 1) c') ∧ w7.frozen? ⟨bt, 1, none⟩ = false ∧ w7.cell? ⟨bt, 2, none⟩ = some mb ∧ w7.frozen? ⟨bt, 2, none⟩ = false ∧
              Hid (AfM P w (w7.setCell ⟨bt, 1, none⟩ (.slice a' m c')) bt ⟨s.ns, (js1 ++ [(⟨l, c⟩ : Po)]).drop 1, s.ix⟩))) := by
      intro w3 hb3
      have hb03 : Below w.heap.size w w3 := hb1.trans (hb3.mono hb1.size)
      have hM := h.below hb03
      obtain ⟨mb, ja, jc, e0, e1, e2, fz, hbt, hrc, hja⟩ := hM.cells
      obtain ⟨mb', ja', jc', L, clock, q1, q2, q3, q4, p1, p2, p3, p4⟩ := hM
      have e1' := e1
      rw [cell_row q1] at e1'
      simp at e1'
      obtain ⟨rfl, rfl⟩ := e1'
      have hM := h.below hb03
      have d0 : w3.cell? ⟨w.heap.size, 0, none⟩ = some (.int .i64 l) := (hb3.cell (p := ⟨w.heap.size, 0, none⟩) (by rw [hsz1]; simp)).trans c0
      have d1 : w3.cell? ⟨w.heap.size, 1, none⟩ = some (.int .i64 c) := (hb3.cell (p := ⟨w.heap.size, 1, none⟩) (by rw [hsz1]; simp)).trans c1
      have hP : ∀ k, P k → k < w.heap.size := h.lt
      rw [hn] at e1 q4 p3
      refine ⟨_, ja', jc', hM, e1, d0, d1, fz, e2, (deleteFunc_any ja' n jc' w.heap.size l s.js 0 w3 q4 d0 (fun k e => by have := hP k (p3 k e); omega) (by omega)).mono ?_⟩
      rw [hjs1, hm]
      rintro e w4 ⟨rfl, ho4, hf4⟩
      have hs4 := hf4.size
      have hs3 := hb3.size
      have rowP : ∀ k, some k = (Value.slice ja' n jc').ownBlock → k < w.heap.size := fun k e => hP k (p3 k e.symm)
      have row_ne : ∀ k, some k = (Value.slice ja' n jc').ownBlock → k ≠ bt := by
        intro k e
        obtain ⟨cur, hc⟩ := own_heap q4 e.symm
        rintro rfl
        rw [q1] at hc
        injection hc with hc
        injection hc with _ hc _
        exact absurd hc (by decide)
      obtain ⟨i0, hi0, hz0, hz1, hz2⟩ := info_parts infoPo
      have hba : Below w4.heap.size w4 (w4.alloc (.cells #[.int .i64 l, .int .i64 c] 23)) := (Below.refl _ _).alloc (Nat.le_refl _) _
      have hga := heap_alloc_new w4 (.cells #[.int .i64 l, .int .i64 c] 23)
      obtain ⟨v', w5, hrun, hown, hfr, hnear⟩ := run_append_own_k (P := Try.prog) (w4.alloc (.cells #[.int .i64 l, .int .i64 c] 23)) 0 37 23 i0 _ 2 16 Try.underlying37 hi0 hz0 hz1 hz2 rfl (by decide) (.slice ja' m jc') m (fl js1) (own_fr ho4 (Fr.of_below (fun _ => False) hba) (fun _ _ h => h)) (some ⟨w4.heap.size, 0, none⟩) 1 1 (Po.cells ⟨l, c⟩) rfl
        (fun _ => ⟨_, rfl, fun j u hu => by rw [add_lit, cell_row hga, Nat.zero_add]; simpa [Po.cells] using hu⟩) (by intro u hu; exact fl_one1 [⟨l, c⟩] u (by rw [fl_one]; exact hu)) (by unfold maxLen; omega) (by omega) (Nat.zero_le _)
      obtain ⟨a', c', rfl⟩ := own_slice hown
      rw [← fl_one, ← fl_append] at hown
      have hown' : (Value.slice ja' m jc').ownBlock = (Value.slice ja' n jc').ownBlock := by cases ja' <;> rfl
      rw [hown'] at hfr hnear
      have f35 : Fr (fun k => some k = (Value.slice ja' n jc').ownBlock) w3 w5 := (hf4.trans (Fr.of_below (fun _ => False) hba) (fun _ _ h => h.elim)).trans hfr (fun _ _ h => h)
      have cbt : ∀ i, w5.cell? ⟨bt, i, none⟩ = w3.cell? ⟨bt, i, none⟩ := fun i => World.cell?_of_block (a := ⟨bt, i, none⟩) (f35.block bt hbt (fun e => row_ne bt e rfl))
      have cnew : ∀ i, w4.cell? ⟨w.heap.size, i, none⟩ = w3.cell? ⟨w.heap.size, i, none⟩ := fun i => World.cell?_of_block (a := ⟨w.heap.size, i, none⟩) (hf4.block w.heap.size (by omega) (fun e => by have := rowP _ e; omega))
      have hbt5 := (f35.block bt hbt (fun e => row_ne bt e rfl)).trans q1
      refine ⟨rfl, a', c', w5, hrun, (cnew 0).trans d0, (cnew 1).trans d1, (cbt 1).trans e1, frozen_row hbt5 1, (cbt 2).trans e2, frozen_row hbt5 2, hown, ?_⟩
      suffices hA : AfM P w3 (w5.setCell ⟨bt, 1, none⟩ (.slice a' (m + 1) c')) bt ⟨s.ns, js1 ++ [⟨l, c⟩], s.ix⟩ by
        refine ⟨hA.after hb03 hP, fun hm1 => ?_⟩
        obtain ⟨P', hM6, hF6, hP6⟩ := hA.after hb03 hP
        obtain ⟨g, rfl⟩ := own_some hown (by omega)
        have hbt6 := heap_set hbt5 1 (.slice (some ⟨g, 0, none⟩) (m + 1) c')
        have hgbt : g ≠ bt := by
          obtain ⟨cur, hc⟩ := own_heap hown (k := g) rfl
          rintro rfl
          rw [hbt5] at hc
          injection hc with hc
          injection hc with _ hc _
          exact absurd hc (by decide)
        have ho6 : (w5.setCell ⟨bt, 1, none⟩ (.slice (some ⟨g, 0, none⟩) (m + 1) c')).ownsRow 0 23 2 (.slice (some ⟨g, 0, none⟩) (m + 1) c') (m + 1) (fl (js1 ++ [⟨l, c⟩])) := own_fr hown ((Fr.refl (fun k => k = bt) w5).setCell ⟨bt, 1, none⟩ _ (fun _ => rfl)) (fun k e h => hgbt (by cases e; exact h))
        show Calls _ _ _ _ _
        refine (delete1_any g (m + 1) c' _ 0 _ ho6 (by omega) (by omega)).mono ?_
        rintro e w7 ⟨rfl, ho7, hf7⟩
        have hbt7 := (hf7.block bt (heap_lt hbt6) (fun e => hgbt e.symm)).trans hbt6
        refine ⟨rfl, by rw [cell_row hbt7]; rfl, frozen_row hbt7 1, by rw [cell_row hbt7, ← e2, cell_row q1]; rfl, frozen_row hbt7 2, ?_⟩
        have hln : (js1 ++ [(⟨l, c⟩ : Po)]).length = m + 1 := by rw [List.length_append, hm]; rfl
        have hA7 : AfM P' (w5.setCell ⟨bt, 1, none⟩ (.slice (some ⟨g, 0, none⟩) (m + 1) c')) (w7.setCell ⟨bt, 1, none⟩ (.slice (some ⟨g, 0, none⟩) m c')) bt ⟨s.ns, (js1 ++ [(⟨l, c⟩ : Po)]).drop 1, s.ix⟩ := by
          refine AfM.setJ1 hM6 (ja := some ⟨g, 0, none⟩) (jc := c') (by rw [hln]; rw [cell_row hbt6]; rfl) (hf7.mono (fun k _ e => by rw [e]; rfl)) ho7 (fun k e => .inl (by rw [← e]; rfl))
        exact AfM.trans ⟨P', hM6, hF6, hP6⟩ (fun P'' hM'' => by
          refine AfM.setJ1 hM'' (ja := some ⟨g, 0, none⟩) (jc := c') (by rw [hln]; rw [cell_row hbt6]; rfl) (hf7.mono (fun k _ e => by rw [e]; rfl)) ho7 (fun k e => .inl (by rw [← e]; rfl)))
      have hA : AfM P w3 (w5.setCell ⟨bt, 1, none⟩ (.slice a' (m + 1) c')) bt ⟨s.ns, js1 ++ [⟨l, c⟩], s.ix⟩ := by
        refine AfM.setJ1 hM (ja := ja') (jc := jc') (by rw [hn]; exact e1) (by rw [hn]; exact f35) hown (fun k e => ?_)
        rw [hn]
        rcases hnear with h | h
        · left; rw [← h, e]
        · right
          rw [e] at h
          simp at h
          omega
      exact hA
    by_cases h100 : 100 < m + 1
    · have hJ : pushJ s.js ⟨l, c⟩ = (js1 ++ [(⟨l, c⟩ : Po)]).drop 1 := by
        have : 100 < (notL l s.js ++ [(⟨l, c⟩ : Po)]).length := by rw [hjs1, List.length_append, hm]; simpa using h100
        unfold pushJ
        rw [if_pos this, hjs1]
      have hJl : ((js1 ++ [(⟨l, c⟩ : Po)]).drop 1).length = m := by rw [List.length_drop, List.length_append, hm]; rfl
      rw [hJ, hJl]
      have hi : (100 : Int) < (m : Int) + 1 := by omega
      have hm1 : 1 ≤ m := by omega
      clear hJ hJl
      go_enter Try.func19, Try.ntmps19
      go_wp2_with (first | (go_at_call 31; refine (isNear_any ⟨l, c⟩ _).mono ?_; rintro e w3 ⟨rfl, hb3⟩; rw [hf]; obtain ⟨mb, ja, jc, hM, e1, d0, d1, fz, e2, hcall⟩ := hdel _ hb3) | (go_at_call 35; refine hcall.mono ?_; rintro e w4 ⟨rfl, a', c', w5, HRUN, f0, f1, g1, gz1, g2, gz2, HO, HA, HD⟩; have HD2 := HD hm1; clear HD HA) | (at_builtin; go_must (with_reducible refine Lib.wpList_append_run _ rfl _ _ _ _ rfl _ _ rfl rfl _ _ (HRUN.out _) ?_)) | (go_at_call 37; refine (HD2.out).mono ?_; rintro e w7 ⟨rfl, k1, kz1, k2, kz2, HA7⟩))
      go_end0
      refine ⟨rfl, HA7.out.trans (fun P' hM' => AfM.setIx hM' m)⟩
    · have hJ : pushJ s.js ⟨l, c⟩ = js1 ++ [⟨l, c⟩] := by
        have : ¬ 100 < (notL l s.js ++ [(⟨l, c⟩ : Po)]).length := by rw [hjs1, List.length_append, hm]; simpa using h100
        unfold pushJ
        rw [if_neg this, hjs1]
      have hJl : (js1 ++ [(⟨l, c⟩ : Po)]).length = m + 1 := by rw [List.length_append, hm]; rfl
      rw [hJ, hJl]
      have hi : ¬ (100 : Int) < (m : Int) + 1 := by omega
      have hi2 : (m : Int) + 1 ≤ 100 := by omega
      clear hJ hJl
      go_enter Try.func19, Try.ntmps19
      go_wp2_with (first | (go_at_call 31; refine (isNear_any ⟨l, c⟩ _).mono ?_; rintro e w3 ⟨rfl, hb3⟩; rw [hf]; obtain ⟨mb, ja, jc, hM, e1, d0, d1, fz, e2, hcall⟩ := hdel _ hb3) | (go_at_call 35; refine hcall.mono ?_; rintro e w4 ⟨rfl, a', c', w5, HRUN, f0, f1, g1, gz1, g2, gz2, HO, HA, HD⟩; clear HD) | (at_builtin; go_must (with_reducible refine Lib.wpList_append_run _ rfl _ _ _ _ rfl _ _ rfl rfl _ _ (HRUN.out _) ?_)))
      go_end0
      refine ⟨rfl, HA.out.trans (fun P' hM' => ?_)⟩
      have := AfM.setIx hM' (m + 1)
      rw [show ((m + 1 : Nat) : Int) = (m : Int) + 1 by omega] at this
      exact this
  · have hs : pushM s ⟨l, c⟩ = s := by simp [pushM, hf]
    rw [hs]
    have hf' : fitsP ⟨l, c⟩ = false := by simpa using hf
    go_enter Try.func19, Try.ntmps19
    go_wp2_with (go_at_call 31; refine (isNear_any ⟨l, c⟩ _).mono ?_; rintro e w3 ⟨rfl, hb3⟩; rw [hf'])
    exact bodyPost_ret (results_none rfl _ _ _) rfl ⟨rfl, h.same (hb1.trans ((hw1 ▸ hb3 : Below w1.heap.size w1 w3).mono hb1.size))⟩
end Go.Proofs.Ytbgbhlnidabhnaa.U
