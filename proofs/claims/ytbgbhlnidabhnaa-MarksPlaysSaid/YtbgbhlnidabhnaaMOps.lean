/-
  Set, Get, Jumps, Forth.
-/
import Derived.Test.YtbgbhlnidabhnaaMSt
import Derived.RegionTactic
import Derived.ChangeAlike
import Derived.StillTailTactics
import Derived.Deep.RegionLaw
import Derived.Deep.QuietTactic
import Derived.BigQuiet
namespace Go.Proofs.Ytbgbhlnidabhnaa.U
open Go.RowKit
set_option linter.unusedVariables false
set_option linter.unusedSimpArgs false
set_option maxRecDepth 100000

theorem set_nil (r : Int) (p : Po) (w : World) : Calls Try.prog 13 #[.pointer none, .int .i32 r, p.v] w fun e w' => e = .returned (.int .i64 1) ∧ Below w.heap.size w w' := by
  obtain ⟨l, c⟩ := p
  show Calls _ _ #[.pointer none, .int .i32 r, .agg #[.int .i64 l, .int .i64 c]] w _
  go_enter Try.func13, Try.ntmps13
  go_wp2
  go_ret
  exact ⟨rfl, (Below.refl _ w).alloc (Nat.le_refl _) _⟩

set_option maxHeartbeats 1000000 in
theorem set_any {P : Nat → Prop} {bt : Nat} {s : Ms} {B : Int} (r : Int) (p : Po) (w : World) (h : MkS P w bt s) (hok : s.ok B) :
    Calls Try.prog 13 #[.pointer (some ⟨bt, 0, none⟩), .int .i32 r, p.v] w fun e w' => e = .returned (.int .i64 (setM s r p).2) ∧ AfM P w w' bt (setM s r p).1 := by
  obtain ⟨l, c⟩ := p
  show Calls _ _ #[.pointer (some ⟨bt, 0, none⟩), .int .i32 r, .agg #[.int .i64 l, .int .i64 c]] w _
  obtain ⟨w1, hw1⟩ : ∃ w1, w.alloc (.cells #[.int .i64 l, .int .i64 c] 23) = w1 := ⟨_, rfl⟩
  have hb1 : Below w.heap.size w w1 := by rw [← hw1]; exact (Below.refl _ w).alloc (Nat.le_refl _) _
  have c0 : w1.cell? ⟨w.heap.size, 0, none⟩ = some (.int .i64 l) := by rw [← hw1, cell_of_row _ _ _ _ _ _ (heap_alloc_new w _)]; rfl
  have c1 : w1.cell? ⟨w.heap.size, 1, none⟩ = some (.int .i64 c) := by rw [← hw1, cell_of_row _ _ _ _ _ _ (heap_alloc_new w _)]; rfl
  have hsz1 : w1.heap.size = w.heap.size + 1 := by rw [← hw1]; simp
  by_cases hn : nameB r = true
  · by_cases hf : fitsP ⟨l, c⟩ = true
    · have hs : setM s r ⟨l, c⟩ = (⟨setN s.ns r ⟨l, c⟩, s.js, s.ix⟩, 0) := by simp [setM, hn, hf]
      rw [hs]
      go_enter Try.func13, Try.ntmps13
      go_wp2_with (first | (go_at_call 30; refine (isName_any r _).mono ?_; rintro e w2 ⟨rfl, hw2⟩; have hw3 := hw2.symm; subst hw3; rw [hn]) | (go_at_call 31; refine (isNear_any ⟨l, c⟩ _).mono ?_; rintro e w3 ⟨rfl, hb3⟩; rw [hf]))
      have hb : Below w.heap.size w w3 := (hb1.trans ((hw1 ▸ hb3 : Below w1.heap.size w1 w3).mono hb1.size))
      have d0 : w3.cell? ⟨w.heap.size, 0, none⟩ = some (.int .i64 l) := ((hw1 ▸ hb3 : Below w1.heap.size w1 w3).cell (p := ⟨w.heap.size, 0, none⟩) (by rw [hsz1]; simp)).trans c0
      have d1 : w3.cell? ⟨w.heap.size, 1, none⟩ = some (.int .i64 c) := ((hw1 ▸ hb3 : Below w1.heap.size w1 w3).cell (p := ⟨w.heap.size, 1, none⟩) (by rw [hsz1]; simp)).trans c1
      obtain ⟨mb, ja, jc, L, clock, h1, h2, h3, h4, p1, p2, p3, p4⟩ := h.below hb
      have hmb : mb < w.heap.size := h.lt mb p2
      obtain ⟨w4, clock', hrun, hm4, hf4, hs4, _⟩ := (⟨h2.at_, h2.keys, h2.borns, h2.young, h2.wf⟩ : MapAt w3.drew mb L clock).upd (nameB_wf hn) ⟨l, c⟩
      have hrun : (Instr.mapUpdate 58 (.map (some mb)) (.int .i32 r) (.agg #[.int .i64 l, .int .i64 c])).run Try.prog w3.drew = .ok () w4 := hrun
      have e0 : w3.cell? ⟨bt, 0, none⟩ = some (.map (some mb)) := by rw [cell_row h1]; rfl
      have hne : bt ≠ mb := by
        rintro rfl
        rw [h2.at_] at h1
        cases h1
      have H4 := Lib.hid hm4
      have HF4 := Lib.hid hf4
      have H := Lib.hid h1
      have H3 := Lib.hid h3
      have HB := Lib.hid hb
      clear hm4 hf4 h1 h3 hb hs4
      go_region
      go_wp2
      go_ret
      refine ⟨rfl, P, ⟨mb, ja, jc, _, clock', ?_, H4.out, upd_perm h2.keys H3.out hok.sorted H4.out.keys, ?_, p1, p2, p3, fun k hk => ?_⟩, ?_, fun k hk => .inl hk⟩
      · exact (HF4.out.block bt (heap_lt H.out) hne).trans H.out
      · refine own_fr (w := w3.drew) h4 HF4.out (fun k e => ?_)
        obtain ⟨cur, hc⟩ := own_heap h4 e
        rintro rfl
        rw [h2.at_] at hc
        cases hc
      · have := p4 k hk
        have := HF4.out.size
        exact Nat.lt_of_lt_of_le ‹_› this
      · exact (Fr.of_below P HB.out).drew.trans (HF4.out) (fun k _ (e : k = mb) => by rw [e]; exact p2)
    · have hs : setM s r ⟨l, c⟩ = (s, 1) := by simp [setM, hn, hf]
      rw [hs]
      have hf' : fitsP ⟨l, c⟩ = false := by simpa using hf
      go_enter Try.func13, Try.ntmps13
      go_wp2_with (first | (go_at_call 30; refine (isName_any r _).mono ?_; rintro e w2 ⟨rfl, hw2⟩; have hw3 := hw2.symm; subst hw3; rw [hn]) | (go_at_call 31; refine (isNear_any ⟨l, c⟩ _).mono ?_; rintro e w3 ⟨rfl, hb3⟩; rw [hf']))
      go_ret
      exact ⟨rfl, h.same (hb1.trans ((hw1 ▸ hb3 : Below w1.heap.size w1 w3).mono hb1.size))⟩
  · have hs : setM s r ⟨l, c⟩ = (s, 1) := by simp [setM, hn]
    rw [hs]
    have hn' : nameB r = false := by simpa using hn
    go_enter Try.func13, Try.ntmps13
    go_wp2_with (go_at_call 30; refine (isName_any r _).mono ?_; rintro e w2 ⟨rfl, hw2⟩; have hw3 := hw2.symm; subst hw3; rw [hn'])
    go_ret
    exact ⟨rfl, h.same (hw1 ▸ hb1)⟩

theorem get_nil (r : Int) (w : World) : Calls Try.prog 15 #[.pointer none, .int .i32 r] w fun e w' => e = .returned (ansV none) ∧ Below w.heap.size w w' := by
  go_enter Try.func15, Try.ntmps15
  go_wp2
  refine bodyPost_ret (v := .tuple #[.agg #[.int .i64 0, .int .i64 0], .bool false]) ?_ rfl ⟨rfl, (Below.refl _ w).alloc (Nat.le_refl _) _⟩
  rw [results_ct rfl]
  go_simp
theorem get_any {P : Nat → Prop} {bt : Nat} {s : Ms} {B : Int} (r : Int) (w : World) (h : MkS P w bt s) (hok : s.ok B) (hr : (Lit.int .i32 r).wf = true) :
    Calls Try.prog 15 #[.pointer (some ⟨bt, 0, none⟩), .int .i32 r] w fun e w' => e = .returned (ansV (lookN s.ns r)) ∧ Below w.heap.size w w' := by
  have hb1 : Below w.heap.size w (w.alloc (.cells #[.int .i64 0, .int .i64 0] 23)) := (Below.refl _ w).alloc (Nat.le_refl _) _
  obtain ⟨mb, ja, jc, L, clock, h1, h2, h3, h4, p1, p2, p3, p4⟩ := h.below hb1
  have hl := h2.look hr
  rw [find_map_s, lookN_perm h3 (sorted_nodup hok.sorted)] at hl
  have e0 : (w.alloc (.cells #[.int .i64 0, .int .i64 0] 23)).cell? ⟨bt, 0, none⟩ = some (.map (some mb)) := by rw [cell_row h1]; rfl
  obtain ⟨a, ha⟩ : ∃ a, (lookN s.ns r).getD po0 = a := ⟨_, rfl⟩
  obtain ⟨b, hb⟩ : ∃ b, (lookN s.ns r).isSome = b := ⟨_, rfl⟩
  obtain ⟨al, ac⟩ := a
  unfold ansV at hl ⊢
  rw [ha, hb] at hl ⊢
  have hl2 : (Instr.lookup 58 (.map (some mb)) (.int .i32 r) true).run Try.prog (w.alloc (.cells #[.int .i64 0, .int .i64 0] 23)) = .ok (.tuple #[.agg #[.int .i64 al, .int .i64 ac], .bool b]) (w.alloc (.cells #[.int .i64 0, .int .i64 0] 23)) := hl
  have hb2 : Below w.heap.size w ((w.alloc (.cells #[.int .i64 al, .int .i64 ac] 23)).alloc (.cells #[.int .i64 al, .int .i64 ac] 23)) := ((Below.refl _ w).alloc (Nat.le_refl _) _).alloc (by simp) _
  clear hl ha hb hb1 h2 h3 h4 h1 h
  go_enter Try.func15, Try.ntmps15
  go_wp2
  refine bodyPost_ret (v := .tuple #[.agg #[.int .i64 al, .int .i64 ac], .bool b]) ?_ rfl ⟨rfl, hb2⟩
  rw [results_ct rfl]
  go_simp

theorem jumps_nil (w : World) : Calls Try.prog 25 #[.pointer none] w fun e w' => e = .returned (.tuple #[.slice none 0 0, .int .i64 0]) ∧ w' = w := by
  go_enter Try.func25, Try.ntmps25
  go_wp2
  go_ret2
  exact ⟨rfl, rfl⟩
theorem forth_nil (w : World) : Calls Try.prog 23 #[.pointer none] w fun e w' => e = .returned (ansV none) ∧ Below w.heap.size w w' := by
  go_enter Try.func23, Try.ntmps23
  go_wp2
  go_quiet (fail)
  go_wp2
  refine bodyPost_ret (v := .tuple #[.agg #[.int .i64 0, .int .i64 0], .bool false]) ?_ rfl ⟨rfl, ?_⟩
  · rw [results_ct rfl]
    go_simp
  · first | exact (((bdrewN ((Below.refl _ w).alloc (Nat.le_refl _) _) _).setCell (Nat.le_refl _) _).setCell (Nat.le_refl _) _) | exact bdrewN ((Below.refl _ w).alloc (Nat.le_refl _) _) _ | exact ((Below.refl _ w).alloc (Nat.le_refl _) _).drew | exact ((Below.refl _ w).alloc (Nat.le_refl _) _)
theorem names_nil (w : World) : Calls Try.prog 27 #[.pointer none] w fun e w' => e = .returned (.slice none 0 0) ∧ w' = w := by
  go_enter Try.func27, Try.ntmps27
  go_wp2
  go_ret
  exact ⟨rfl, rfl⟩
theorem push_nil (p : Po) (w : World) : Calls Try.prog 19 #[.pointer none, p.v] w fun e w' => e = .returned (.tuple #[]) ∧ Below w.heap.size w w' := by
  obtain ⟨l, c⟩ := p
  show Calls _ _ #[.pointer none, .agg #[.int .i64 l, .int .i64 c]] w _
  go_enter Try.func19, Try.ntmps19
  go_wp2
  exact bodyPost_ret (results_none rfl _ _ _) rfl ⟨rfl, (Below.refl _ w).alloc (Nat.le_refl _) _⟩
theorem back_nil (p : Po) (w : World) : Calls Try.prog 21 #[.pointer none, p.v] w fun e w' => e = .returned (ansV none) ∧ Below w.heap.size w w' := by
  obtain ⟨l, c⟩ := p
  show Calls _ _ #[.pointer none, .agg #[.int .i64 l, .int .i64 c]] w _
  go_enter Try.func21, Try.ntmps21
  go_wp2
  refine bodyPost_ret (v := .tuple #[.agg #[.int .i64 0, .int .i64 0], .bool false]) ?_ rfl ⟨rfl, ((Below.refl _ w).alloc (Nat.le_refl _) _).alloc (by simp) _⟩
  rw [results_ct rfl]
  go_simp
theorem adjust_nil (v0 v1 v2 : Value) (w : World) : Calls Try.prog 17 #[.pointer none, .agg #[v0, v1, v2]] w fun e w' => e = .returned (.tuple #[]) ∧ Below w.heap.size w w' := by
  go_enter Try.func17, Try.ntmps17
  go_wp2
  exact bodyPost_ret (results_none rfl _ _ _) rfl ⟨rfl, (Below.refl _ w).alloc (Nat.le_refl _) _⟩
end Go.Proofs.Ytbgbhlnidabhnaa.U
