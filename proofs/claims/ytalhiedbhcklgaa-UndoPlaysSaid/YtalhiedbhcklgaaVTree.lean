/-
  The tree of what was done: what each call keeps, as plain mathematics.
-/
import Derived.Test.YtalhiedbhcklgaaVPure
namespace Go.Proofs.Ytalhiedbhcklgaa.U
set_option linter.unusedVariables false
set_option linter.unusedSimpArgs false

theorem Tr.zero_ok : Tr.zero.Ok := ⟨by simp [Tr.zero], by simp [Tr.zero], fun i p h => by simp [Tr.zero] at h⟩
theorem Tr.begin_ok {t : Tr} (h : t.Ok) : t.begin_.Ok := h
theorem Tr.group_ok {t : Tr} (h : t.Ok) (g : List Ch) : Tr.Ok { t with group := g } := h
theorem Tr.end_ok {t : Tr} (h : t.Ok) : t.end_.Ok := by
  unfold Tr.end_
  by_cases hg : t.group = []
  · rw [if_pos hg]; exact h
  · rw [if_neg hg]
    by_cases hf : t.nodes.length = 4096
    · rw [if_pos hf]
      refine ⟨by simp, by simp, fun i p hp => ?_⟩
      cases i with
      | zero => simp at hp; subst hp; exact ⟨Nat.le_refl _, hg⟩
      | succ i => simp at hp
    · rw [if_neg hf]
      refine ⟨by simp only [List.length_append, List.length_cons, List.length_nil]; have := h.1; omega, by simp, fun i p hp => ?_⟩
      by_cases hi : i < t.nodes.length
      · rw [List.getElem?_append_left hi] at hp; exact h.2.2 i p hp
      · rw [List.getElem?_append_right (by omega)] at hp
        have hi0 : i - t.nodes.length = 0 := by
          have := (List.getElem?_eq_some_iff.1 hp).1
          simp at this; omega
        rw [hi0] at hp
        simp at hp
        subst hp
        exact ⟨by have := h.2.1; simp only; omega, hg⟩
theorem Tr.add_ok {t : Tr} (h : t.Ok) (c : Ch) : (t.add c).Ok := by
  unfold Tr.add
  split
  · exact h
  · split
    · exact h
    · exact Tr.end_ok (Tr.group_ok h _)
theorem Tr.end_group (t : Tr) : t.end_.group = [] := by
  unfold Tr.end_
  by_cases hg : t.group = []
  · rw [if_pos hg]; exact hg
  · rw [if_neg hg]; split <;> rfl
theorem Tr.end_open (t : Tr) : t.end_.isOpen = false := by
  unfold Tr.end_
  split
  · rfl
  · split <;> rfl
theorem Tr.end_end (t : Tr) : t.end_.end_ = t.end_ := by
  have h1 := t.end_group
  have h2 := t.end_open
  generalize t.end_ = u at *
  unfold Tr.end_
  rw [if_pos h1]
  cases u
  simp only at h2
  subst h2
  rfl
theorem Tr.last_le (t : Tr) : ∀ i, t.last i ≤ i
  | 0 => Nat.le_refl _
  | i + 1 => by
    unfold Tr.last
    split
    · exact Nat.le_refl _
    · have := Tr.last_le t i; omega
theorem Tr.last_up (t : Tr) : ∀ i, t.last i ≠ 0 → t.up (t.last i) = t.here
  | 0, h => absurd rfl h
  | i + 1, h => by
    unfold Tr.last at h ⊢
    by_cases h1 : t.up (i + 1) = t.here
    · rw [if_pos h1]; exact h1
    · rw [if_neg h1] at h ⊢
      exact Tr.last_up t i h
theorem Tr.undo_ok {t : Tr} (h : t.Ok) : t.undo.1.Ok := by
  have he := Tr.end_ok h
  unfold Tr.undo
  by_cases h0 : t.end_.here = 0
  · rw [if_pos h0]; exact he
  · rw [if_neg h0]
    exact ⟨he.1, by have := Tr.up_lt he h0 he.2.1; have := he.2.1; simp only; omega, he.2.2⟩
theorem Tr.redo_ok {t : Tr} (h : t.Ok) : t.redo.1.Ok := by
  have he := Tr.end_ok h
  unfold Tr.redo
  split
  · exact he
  · exact ⟨he.1, Tr.last_le _ _, he.2.2⟩

theorem Tr.up_append (t : Tr) (p : Nat × List Ch) {n : Nat} (h0 : n ≠ 0) (hn : n ≤ t.nodes.length) (h b : _) (g : List Ch) : Tr.up ⟨t.nodes ++ [p], h, b, g⟩ n = t.up n ∧ Tr.chs ⟨t.nodes ++ [p], h, b, g⟩ n = t.chs n := by
  unfold Tr.up Tr.chs
  simp only [List.getD_eq_getElem?_getD]
  rw [List.getElem?_append_left (by omega)]
  exact ⟨rfl, rfl⟩
theorem Tr.up_last (t : Tr) (p : Nat × List Ch) (h b : _) (g : List Ch) : Tr.up ⟨t.nodes ++ [p], h, b, g⟩ (t.nodes.length + 1) = p.1 ∧ Tr.chs ⟨t.nodes ++ [p], h, b, g⟩ (t.nodes.length + 1) = p.2 := by
  unfold Tr.up Tr.chs
  simp only [List.getD_eq_getElem?_getD, Nat.add_sub_cancel]
  rw [List.getElem?_append_right (Nat.le_refl _), Nat.sub_self]
  exact ⟨rfl, rfl⟩
/-- a group that is closed is a new node, at which the lines are what they are behind it -/
theorem Tr.end_sem {t : Tr} {st : Nat → List (List Int)} {x : List (List Int)} (h : t.Ok) (hs : t.Sem st) (hg : t.group ≠ []) (hf : t.nodes.length < 4096) (hx : doAll (st t.here) t.group = some x) :
    t.end_.Sem (fun n => if n = t.nodes.length + 1 then x else st n) ∧ t.end_.here = t.nodes.length + 1 ∧ t.end_.nodes.length = t.nodes.length + 1 := by
  have he : t.end_ = ⟨t.nodes ++ [(t.here, t.group)], t.nodes.length + 1, false, []⟩ := by
    unfold Tr.end_
    rw [if_neg hg, if_neg (by omega)]
  rw [he]
  refine ⟨fun n h0 hn => ?_, rfl, by simp⟩
  simp only [List.length_append, List.length_cons, List.length_nil] at hn
  by_cases hl : n = t.nodes.length + 1
  · subst hl
    obtain ⟨e1, e2⟩ := Tr.up_last t (t.here, t.group) (t.nodes.length + 1) false []
    rw [e1, e2]
    show doAll (if t.here = t.nodes.length + 1 then x else st t.here) t.group = some (if t.nodes.length + 1 = t.nodes.length + 1 then x else st (t.nodes.length + 1))
    rw [if_pos rfl, if_neg (by have := h.2.1; omega)]
    exact hx
  · obtain ⟨e1, e2⟩ := Tr.up_append t (t.here, t.group) h0 (by omega : n ≤ t.nodes.length) (t.nodes.length + 1) false []
    rw [e1, e2]
    have hu := Tr.up_lt h h0 (by omega)
    show doAll (if t.up n = t.nodes.length + 1 then x else st (t.up n)) (t.chs n) = some (if n = t.nodes.length + 1 then x else st n)
    rw [if_neg hl, if_neg (by omega)]
    exact hs n h0 (by omega)

/-- one upon the other -/
def Tr.Chain (t : Tr) : Prop := ∀ n, n ≠ 0 → n ≤ t.nodes.length → t.up n = n - 1
theorem Tr.end_chain {t : Tr} (hc : t.Chain) (hh : t.here = t.nodes.length) (hg : t.group ≠ []) (hf : t.nodes.length < 4096) : t.end_.Chain := by
  have he : t.end_ = ⟨t.nodes ++ [(t.here, t.group)], t.nodes.length + 1, false, []⟩ := by
    unfold Tr.end_
    rw [if_neg hg, if_neg (by omega)]
  rw [he]
  intro n h0 hn
  simp only [List.length_append, List.length_cons, List.length_nil] at hn
  by_cases hl : n = t.nodes.length + 1
  · subst hl
    rw [(Tr.up_last t (t.here, t.group) (t.nodes.length + 1) false []).1]
    simp only
    omega
  · rw [(Tr.up_append t (t.here, t.group) h0 (by omega : n ≤ t.nodes.length) (t.nodes.length + 1) false []).1]
    exact hc n h0 (by omega)
theorem Tr.last_chain {t : Tr} (hc : t.Chain) : ∀ i, i ≤ t.nodes.length → t.last i = if t.here < i then t.here + 1 else 0
  | 0, _ => by simp [Tr.last]
  | i + 1, hi => by
    have h1 := hc (i + 1) (by omega) hi
    unfold Tr.last
    rw [h1, Nat.add_sub_cancel]
    by_cases h2 : i = t.here
    · rw [if_pos h2, if_pos (by omega), h2]
    · rw [if_neg h2, Tr.last_chain hc i (by omega)]
      by_cases h3 : t.here < i
      · rw [if_pos h3, if_pos (by omega)]
      · rw [if_neg h3, if_neg (by omega)]
/-- an undo leads one node back -/
theorem Tr.undo_leads {t : Tr} {st : Nat → List (List Int)} (h : t.Ok) (hs : t.Sem st) (hg : t.group = []) (h0 : t.here ≠ 0) (hne : st (t.up t.here) ≠ []) : ∃ cs, t.undo = ({ t with here := t.up t.here, isOpen := false }, some cs) ∧ doAll (st t.here) cs = some (st (t.up t.here)) := by
  have he : t.end_ = { t with isOpen := false } := by unfold Tr.end_; rw [if_pos hg]
  refine ⟨backC (t.chs t.here), ?_, doAll_back (hs t.here h0 h.2.1) hne⟩
  unfold Tr.undo
  rw [he, if_neg h0]
  rfl
/-- a redo leads to the last node that stands on the one where it is -/
theorem Tr.redo_leads {t : Tr} {st : Nat → List (List Int)} (h : t.Ok) (hs : t.Sem st) (hg : t.group = []) (h0 : t.last t.nodes.length ≠ 0) : ∃ cs, t.redo = ({ t with here := t.last t.nodes.length, isOpen := false }, some cs) ∧ doAll (st t.here) cs = some (st (t.last t.nodes.length)) := by
  have he : t.end_ = { t with isOpen := false } := by unfold Tr.end_; rw [if_pos hg]
  have hl : ∀ i, Tr.last { t with isOpen := false } i = t.last i := by
    intro i
    induction i with
    | zero => rfl
    | succ i ih =>
      unfold Tr.last
      rw [ih]
      rfl
  have hle := Tr.last_le t t.nodes.length
  have hup := Tr.last_up t t.nodes.length h0
  have hq := hs _ h0 hle
  rw [hup] at hq
  refine ⟨t.chs (t.last t.nodes.length), ?_, hq⟩
  unfold Tr.redo
  rw [he]
  simp only [hl]
  rw [if_neg h0]
  rfl
end Go.Proofs.Ytalhiedbhcklgaa.U
