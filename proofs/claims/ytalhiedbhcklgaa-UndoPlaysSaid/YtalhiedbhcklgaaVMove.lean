/-
  The contracts of Undo, Redo and To.
-/
import Derived.Test.YtalhiedbhcklgaaVLead
import Derived.Test.YtalhiedbhcklgaaVEndD
import Derived.BigQuiet
import Derived.Deep.RegionWith
namespace Go.Proofs.Ytalhiedbhcklgaa.U
open Go.RowKit
set_option linter.unusedVariables false
set_option linter.unusedSimpArgs false
set_option maxRecDepth 100000

/-- the changes of the way, in memory of their own; the tree apart from them -/
def MovP (P : Nat → Prop) (w : World) (bt : Nat) (t : Tr) (cs : List Ch) (e : Ending) (w' : World) : Prop :=
  ∃ (a : Option Addr) (c : Nat) (P' F' : Nat → Prop) (B : Nat), e = .returned (.tuple #[.slice a cs.length c, .int .i64 0]) ∧ FreshCs B w' a cs.length c cs ∧ w.heap.size ≤ B ∧ TreeC P' F' w' bt t ∧ (∀ k, P' k → k < B) ∧ Fr P w w' ∧ ∀ k, P' k → P k ∨ w.heap.size ≤ k
def MoveR (P : Nat → Prop) (w : World) (bt : Nat) (r : Tr × Option (List Ch)) (er : Int) (e : Ending) (w' : World) : Prop :=
  match r.2 with
  | none => e = .returned (.tuple #[.slice none 0 0, .int .i64 er]) ∧ TreeA P w bt r.1 w'
  | some cs => MovP P w bt r.1 cs e w'
theorem lead_mov {P F P' : Nat → Prop} {w w1 : World} {bt : Nat} {t : Tr} {tt : Nat} (hT : TreeC P' F w1 bt t) (hf : Fr P w w1) (hP : ∀ k, P' k → P k ∨ w.heap.size ≤ k) (hbt : bt < w.heap.size) (hto : tt ≤ t.nodes.length) :
    Calls Try.prog 46 #[.pointer (some ⟨bt, 0, none⟩), .int .i64 (tt : Nat)] w1.drew fun e w' => ∃ a c, e = .returned (.slice a (t.way t.here tt).length c) ∧ Hid (MovP P w bt { t with here := tt } (t.way t.here tt) (.returned (.tuple #[.slice a (t.way t.here tt).length c, .int .i64 0])) w') := by
  have hs := hf.size
  have hPbt : P bt := by rcases hP bt hT.inP with h | h; exact h; omega
  refine (lead_any (hT.below (Below.refl _ _).drew) tt hto).mono ?_
  rintro e w' ⟨a, c, rfl, h1, h2, h3⟩
  exact ⟨a, c, rfl, a, c, P', F, w1.heap.size, rfl, h1, hs, h2, hT.lt, (hf.drew).trans h3 (fun k _ e => by rw [e]; exact hPbt), hP⟩

theorem if_move {P : Nat → Prop} {w : World} {bt : Nat} {p : Prop} [Decidable p] {a b : Tr × Option (List Ch)} {er : Int} {e : Ending} {w' : World} (h : (p → MoveR P w bt a er e w') ∧ (¬ p → MoveR P w bt b er e w')) : MoveR P w bt (if p then a else b) er e w' := by
  by_cases hp : p
  · rw [if_pos hp]; exact h.1 hp
  · rw [if_neg hp]; exact h.2 hp
set_option maxHeartbeats 4000000 in
theorem undo_any {P F : Nat → Prop} {w : World} {bt : Nat} {t : Tr} (h : TreeC P F w bt t) :
    Calls Try.prog 27 #[.pointer (some ⟨bt, 0, none⟩)] w fun e w' => MoveR P w bt t.undo 31 e w' := by
  have HE := Lib.hid (end_any h).1
  have hbt : bt < w.heap.size := h.lt bt h.inP
  unfold Tr.undo
  obtain ⟨u, hu⟩ : ∃ u, t.end_ = u := ⟨_, rfl⟩
  rw [hu] at HE ⊢
  clear hu h
  by_cases h0 : u.here = 0
  · rw [if_pos h0]
    go_enter Try.func27, Try.ntmps27
    go_wp2_with fail
    refine HE.out.mono ?_
    rintro e w1 ⟨rfl, hA⟩
    have HR : Hid (MoveR P w bt (u, none) 31 (.returned (.tuple #[.slice none 0 0, .int .i64 31])) w1) := ⟨rfl, hA⟩
    obtain ⟨P', F', hT, hf, hP⟩ := hA
    obtain ⟨na, nc, ga, gc, _, c1, _, _, _, _, _, _, hl⟩ := hT.cells
    replace c1 : w1.cell? ⟨bt, 1, none⟩ = some (.int .i64 0) := by rw [c1, h0]; rfl
    clear hT h0 hf hP HE
    go_wp2_with fail
    go_ret2
    exact HR.out
  · rw [if_neg h0]
    obtain ⟨i, hi⟩ : ∃ i, u.here = i := ⟨_, rfl⟩
    obtain ⟨j, hj⟩ : ∃ j, u.up i = j := ⟨_, rfl⟩
    obtain ⟨N, hNN⟩ : ∃ N, u.nodes.length + 1 = N := ⟨_, rfl⟩
    rw [hi, hj]
    rw [hi] at h0
    have hi0 : ¬ (i : Int) = 0 := by omega
    go_enter Try.func27, Try.ntmps27
    go_wp2_with fail
    refine HE.out.mono ?_
    rintro e w1 ⟨rfl, hA⟩
    obtain ⟨P', F', hT, hf, hP⟩ := hA
    obtain ⟨na, nc, ga, gc, c0, c1, _, _, _, _, _, _, hl⟩ := hT.cells
    have hok := hT.ok
    have hN := hok.1
    have hh := hok.2.1
    obtain ⟨g, nnc, a', c', q0, q1, q2, q3, q4, q5⟩ := hT.node (Below.refl _ _) (by omega : u.here ≠ 0) hh
    have hul := Tr.up_lt hok (by omega : u.here ≠ 0) hh
    have HL := Lib.hid (lead_mov hT hf hP hbt (tt := u.up u.here) (by omega))
    have hway := Tr.way_undo hok (by omega : u.here ≠ 0) hh
    rw [hway] at HL
    rw [hi] at c1 q3 HL hh hul
    rw [hj] at q3 HL hul
    obtain ⟨m, hm⟩ : ∃ m, (backC (u.chs i)).length = m := ⟨_, rfl⟩
    have HM := Lib.hid hm
    rw [hm] at HL
    rw [hNN] at q0
    have hiN : (i : Int) < (N : Int) := by omega
    have hiN2 : i < N := by omega
    clear hT hway hm q2 q4 q5 c0 hi hj hNN HE hf hP
    go_wp2_with fail
    go_region_with (refine HL.out.mono ?_; rintro e w2 ⟨la, lc, rfl, hmov⟩)
    all_goals
      go_wp2_with fail
      go_ret2
      exact hmov.out

set_option maxHeartbeats 4000000 in
theorem redo_any {P F : Nat → Prop} {w : World} {bt : Nat} {t : Tr} (h : TreeC P F w bt t) :
    Calls Try.prog 29 #[.pointer (some ⟨bt, 0, none⟩)] w fun e w' => MoveR P w bt t.redo 31 e w' := by
  have HE := Lib.hid (end_any h).1
  have hbt : bt < w.heap.size := h.lt bt h.inP
  rw [Tr.redo_lst]
  obtain ⟨u, hu⟩ : ∃ u, t.end_ = u := ⟨_, rfl⟩
  rw [hu] at HE ⊢
  clear hu h
  obtain ⟨i, hi⟩ : ∃ i, u.here = i := ⟨_, rfl⟩
  obtain ⟨j, hj⟩ : ∃ j, u.lst i = j := ⟨_, rfl⟩
  obtain ⟨N, hNN⟩ : ∃ N, u.nodes.length + 1 = N := ⟨_, rfl⟩
  rw [hi, hj]
  by_cases h0 : j = 0
  · rw [if_pos h0]
    go_enter Try.func29, Try.ntmps29
    go_wp2_with fail
    refine HE.out.mono ?_
    rintro e w1 ⟨rfl, hA⟩
    obtain ⟨P', F', hT, hf, hP⟩ := hA
    have HR : Hid (∀ n, MoveR P w bt (u, none) 31 (.returned (.tuple #[.slice none 0 0, .int .i64 31])) (w1.drewN n)) := fun n => ⟨rfl, P', F', hT.below (bdrewN (Below.refl _ _) n), ⟨hf.os, hf.tape, hf.output, hf.size, hf.block⟩, hP⟩
    obtain ⟨na, nc, ga, gc, c0, c1, _, _, _, _, _, _, hl⟩ := hT.cells
    have hok := hT.ok
    have hN := hok.1
    have hh := hok.2.1
    obtain ⟨g, nnc, q0, q1, q2⟩ := hT.lastc (Below.refl _ _) hh
    rw [hi] at c1 hh q2
    rw [hj, h0] at q2
    rw [hNN] at q0
    have hiN : (i : Int) < (N : Int) := by omega
    have hiN2 : i < N := by omega
    clear hT h0 hf hP HE hi hj hNN c0
    go_wp2_with fail
    go_quiet (fail)
    go_wp2_with fail
    go_ret2
    exact HR.out _
  · rw [if_neg h0]
    have hj0 : ¬ (j : Int) = 0 := by omega
    go_enter Try.func29, Try.ntmps29
    go_wp2_with fail
    refine HE.out.mono ?_
    rintro e w1 ⟨rfl, hA⟩
    obtain ⟨P', F', hT, hf, hP⟩ := hA
    obtain ⟨na, nc, ga, gc, c0, c1, _, _, _, _, _, _, hl⟩ := hT.cells
    have hok := hT.ok
    have hN := hok.1
    have hh := hok.2.1
    obtain ⟨g, nnc, q0, q1, q2⟩ := hT.lastc (Below.refl _ _) hh
    have hlu : u.up (u.lst u.here) = u.here := Tr.lst_up (by rw [hi, hj]; exact h0)
    have hle : u.lst u.here ≤ u.nodes.length := Tr.lastAt_le u u.here u.nodes.length
    have hway : u.way u.here (u.lst u.here) = u.chs (u.lst u.here) := by
      have := Tr.way_redo hok (b := u.lst u.here) (by rw [hi, hj]; exact h0) hle
      rw [hlu] at this
      exact this
    have HL : Hid (∀ n, Calls Try.prog 46 #[.pointer (some ⟨bt, 0, none⟩), .int .i64 (u.lst u.here : Nat)] (w1.drewN n).drew fun e w' => ∃ a c, e = .returned (.slice a (u.chs (u.lst u.here)).length c) ∧ Hid (MovP P w bt { u with here := u.lst u.here } (u.chs (u.lst u.here)) (.returned (.tuple #[.slice a (u.chs (u.lst u.here)).length c, .int .i64 0])) w')) := fun n => by
      have q := lead_mov (P := P) (F := F') (w := w) (hT.below (bdrewN (Below.refl _ _) n)) ⟨hf.os, hf.tape, hf.output, hf.size, hf.block⟩ hP hbt (tt := u.lst u.here) hle
      rw [hway] at q
      exact q
    rw [hi] at c1 q2 HL hh
    rw [hj] at q2 HL
    obtain ⟨m, hm⟩ : ∃ m, (u.chs j).length = m := ⟨_, rfl⟩
    have HM := Lib.hid hm
    rw [hm] at HL
    rw [hNN] at q0
    have hiN : (i : Int) < (N : Int) := by omega
    have hiN2 : i < N := by omega
    clear hT hway hm c0 hi hj hNN HE hf hP hlu hle
    go_wp2_with fail
    go_quiet (fail)
    go_wp2_with fail
    go_region_with (refine (HL.out _).mono ?_; rintro e w2 ⟨la, lc, rfl, hmov⟩)
    all_goals
      go_wp2_with fail
      go_ret2
      exact hmov.out
end Go.Proofs.Ytalhiedbhcklgaa.U
