/-
  The contracts of To and New; calls on no tree.
-/
import Derived.Test.YtalhiedbhcklgaaVMove
namespace Go.Proofs.Ytalhiedbhcklgaa.U
open Go.RowKit
set_option linter.unusedVariables false
set_option linter.unusedSimpArgs false
set_option maxRecDepth 100000

def Tr.goTo (t : Tr) (v : Int) : Tr × Option (List Ch) :=
  if v < 0 ∨ (t.end_.nodes.length : Int) < v then (t.end_, none) else ({ t.end_ with here := v.toNat }, some (t.end_.way t.end_.here v.toNat))

theorem lead_mov0 {P F P' : Nat → Prop} {w w1 : World} {bt : Nat} {t : Tr} {tt : Nat} (hT : TreeC P' F w1 bt t) (hf : Fr P w w1) (hP : ∀ k, P' k → P k ∨ w.heap.size ≤ k) (hbt : bt < w.heap.size) (hto : tt ≤ t.nodes.length) :
    Calls Try.prog 46 #[.pointer (some ⟨bt, 0, none⟩), .int .i64 (tt : Nat)] w1 fun e w' => ∃ a c, e = .returned (.slice a (t.way t.here tt).length c) ∧ Hid (MovP P w bt { t with here := tt } (t.way t.here tt) (.returned (.tuple #[.slice a (t.way t.here tt).length c, .int .i64 0])) w') := by
  have hs := hf.size
  have hPbt : P bt := by rcases hP bt hT.inP with h | h; exact h; omega
  refine (lead_any hT tt hto).mono ?_
  rintro e w' ⟨a, c, rfl, h1, h2, h3⟩
  exact ⟨a, c, rfl, a, c, P', F, w1.heap.size, rfl, h1, hs, h2, hT.lt, hf.trans h3 (fun k _ e => by rw [e]; exact hPbt), hP⟩

set_option maxHeartbeats 4000000 in
theorem to_any {P F : Nat → Prop} {w : World} {bt : Nat} {t : Tr} (h : TreeC P F w bt t) (v : Int) :
    Calls Try.prog 31 #[.pointer (some ⟨bt, 0, none⟩), .int .i64 v] w fun e w' => MoveR P w bt (t.goTo v) 4 e w' := by
  have HE := Lib.hid (end_any h).1
  have hbt : bt < w.heap.size := h.lt bt h.inP
  unfold Tr.goTo
  obtain ⟨u, hu⟩ : ∃ u, t.end_ = u := ⟨_, rfl⟩
  rw [hu] at HE ⊢
  clear hu h
  by_cases h0 : v < 0
  · rw [if_pos (.inl h0)]
    go_enter Try.func31, Try.ntmps31
    go_wp2_with fail
    refine HE.out.mono ?_
    rintro e w1 ⟨rfl, hA⟩
    have HR : Hid (MoveR P w bt (u, none) 4 (.returned (.tuple #[.slice none 0 0, .int .i64 4])) w1) := ⟨rfl, hA⟩
    clear hA HE
    go_wp2_with fail
    go_ret2
    exact HR.out
  · by_cases h1 : (u.nodes.length : Int) < v
    · rw [if_pos (.inr h1)]
      go_enter Try.func31, Try.ntmps31
      go_wp2_with fail
      refine HE.out.mono ?_
      rintro e w1 ⟨rfl, hA⟩
      have HR : Hid (MoveR P w bt (u, none) 4 (.returned (.tuple #[.slice none 0 0, .int .i64 4])) w1) := ⟨rfl, hA⟩
      obtain ⟨P', F', hT, hf, hP⟩ := hA
      have HL := Lib.hid (lenT_any hT)
      clear HE hT hf hP
      go_wp2_with fail
      refine HL.out.mono ?_
      rintro e w2 ⟨rfl, rfl⟩
      go_wp2_with fail
      go_ret2
      exact HR.out
    · rw [if_neg (by omega)]
      obtain ⟨n, rfl⟩ : ∃ n : Nat, v = n := ⟨v.toNat, by omega⟩
      rw [Int.toNat_natCast]
      go_enter Try.func31, Try.ntmps31
      go_wp2_with fail
      refine HE.out.mono ?_
      rintro e w1 ⟨rfl, hA⟩
      obtain ⟨P', F', hT, hf, hP⟩ := hA
      have HL := Lib.hid (lenT_any hT)
      have HM := Lib.hid (lead_mov0 hT hf hP hbt (tt := n) (by omega))
      obtain ⟨m, hm⟩ : ∃ m, (u.way u.here n).length = m := ⟨_, rfl⟩
      rw [hm] at HM
      clear HE hT hf hP
      go_wp2_with fail
      refine HL.out.mono ?_
      rintro e w2 ⟨rfl, rfl⟩
      go_wp2_with fail
      refine HM.out.mono ?_
      rintro e w2 ⟨la, lc, rfl, hmov⟩
      clear hm
      go_wp2_with fail
      go_ret2
      exact hmov.out
theorem undo_nil (w : World) : Calls Try.prog 27 #[.pointer none] w fun e w' => e = .returned (.tuple #[.slice none 0 0, .int .i64 1]) ∧ w = w' := by
  go_enter Try.func27, Try.ntmps27
  go_wp2_with fail
  go_ret2
  exact ⟨rfl, rfl⟩
theorem redo_nil (w : World) : Calls Try.prog 29 #[.pointer none] w fun e w' => e = .returned (.tuple #[.slice none 0 0, .int .i64 1]) ∧ w = w' := by
  go_enter Try.func29, Try.ntmps29
  go_wp2_with fail
  go_ret2
  exact ⟨rfl, rfl⟩
theorem to_nil (v : Int) (w : World) : Calls Try.prog 31 #[.pointer none, .int .i64 v] w fun e w' => e = .returned (.tuple #[.slice none 0 0, .int .i64 1]) ∧ w = w' := by
  go_enter Try.func31, Try.ntmps31
  go_wp2_with fail
  go_ret2
  exact ⟨rfl, rfl⟩
theorem zero_mem (w : World) : TreeA (fun _ => False) w (w.heap.size + 1) Tr.zero ((w.alloc (.cells #[.slice none 0 0, .int .i64 0, .int .i64 0] 79)).alloc (.cells #[.slice (some ⟨w.heap.size, 0, none⟩) 1 1, .int .i64 0, .bool false, .slice none 0 0] 73)) := by
  obtain ⟨w1, hw1⟩ : ∃ w1, w.alloc (.cells #[.slice none 0 0, .int .i64 0, .int .i64 0] 79) = w1 := ⟨_, rfl⟩
  have hs1 : w1.heap.size = w.heap.size + 1 := by rw [← hw1]; simp
  have g1 : w1.heap[w.heap.size]? = some (.cells #[.slice none 0 0, .int .i64 0, .int .i64 0] 79 (0, 0)) := by rw [← hw1]; exact heap_alloc_new w _
  rw [hw1]
  obtain ⟨w2, hw2⟩ : ∃ w2, w1.alloc (.cells #[.slice (some ⟨w.heap.size, 0, none⟩) 1 1, .int .i64 0, .bool false, .slice none 0 0] 73) = w2 := ⟨_, rfl⟩
  have hs2 : w2.heap.size = w.heap.size + 2 := by rw [← hw2]; simp [hs1]
  have g2 : w2.heap[w.heap.size + 1]? = some (.cells #[.slice (some ⟨w.heap.size, 0, none⟩) 1 1, .int .i64 0, .bool false, .slice none 0 0] 73 (0, 0)) := by
    have := heap_alloc_new w1 (.cells #[.slice (some ⟨w.heap.size, 0, none⟩) 1 1, .int .i64 0, .bool false, .slice none 0 0] 73)
    rw [hw2, hs1] at this
    exact this
  have g3 : w2.heap[w.heap.size]? = some (.cells #[.slice none 0 0, .int .i64 0, .int .i64 0] 79 (0, 0)) := by rw [← hw2]; exact (Below.heap_alloc w1 _ _ (by omega)).trans g1
  have hb : Below w.heap.size w w2 := by rw [← hw2, ← hw1]; exact ((Below.refl _ _).alloc (Nat.le_refl _) _).alloc (by simp) _
  rw [hw2]
  have hown := own_of (B := 0) (n := 1) (cap := 1) (size := 3) g3 (Nat.zero_le _) (Nat.le_refl _) (by unfold maxLen; omega) rfl
  refine ⟨fun k => k = w.heap.size ∨ k = w.heap.size + 1, fun _ => False, { ex := ⟨some ⟨w.heap.size, 0, none⟩, none, 1, 0, [(.slice none 0 0, .int .i64 0, .int .i64 0)], g2, hown, rfl, rfl, fun i p hp => by simp [Tr.zero] at hp, OwnCs.nil _ _ _, ?_, fun k e => by cases e⟩, inP := .inr rfl, outF := fun h => h, sub := fun k hk => hk.elim, lt := fun k hk => by omega, ok := Tr.zero_ok, lim := ⟨by simp [Tr.zero], by simp [OkG, Tr.zero]⟩ }, Fr.of_below _ hb, fun k hk => .inr (by omega)⟩
  intro k e
  have e2 : w.heap.size = k := by simpa [Value.ownBlock] using e
  exact ⟨.inl e2.symm, fun h => h⟩
theorem new_any (w : World) : Calls Try.prog 20 #[] w fun e w' => e = .returned (.pointer (some ⟨w.heap.size + 1, 0, none⟩)) ∧ TreeA (fun _ => False) w (w.heap.size + 1) Tr.zero w' := by
  have hmk := makeNd w
  have HZ := Lib.hid (zero_mem w)
  go_enter Try.func20, Try.ntmps20
  go_wp2_with fail
  first
    | (go_ret; exact ⟨rfl, HZ.out⟩)
    | trace_state
end Go.Proofs.Ytalhiedbhcklgaa.U
