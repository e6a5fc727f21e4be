/-
  How long a way can be; what the iterator's numbers come to.
-/
import Derived.Test.YtalhiedbhcklgaaVTm
import Derived.Test.YtalhiedbhcklgaaVIter
namespace Go.Proofs.Ytalhiedbhcklgaa.U
set_option linter.unusedVariables false
set_option linter.unusedSimpArgs false

theorem Tr.chs_node {t : Tr} {i : Nat} (h0 : i ≠ 0) (hi : i ≤ t.nodes.length) : ∃ p, t.nodes[i - 1]? = some p ∧ t.chs i = p.2 ∧ t.up i = p.1 := by
  have hj : i - 1 < t.nodes.length := by omega
  have hp := List.getElem?_eq_getElem hj
  exact ⟨_, hp, by unfold Tr.chs; rw [List.getD_eq_getElem?_getD, hp, Option.getD_some], by unfold Tr.up; rw [List.getD_eq_getElem?_getD, hp, Option.getD_some]⟩
theorem Tr.chs_ok {t : Tr} (h : t.Lim) {i : Nat} (h0 : i ≠ 0) (hi : i ≤ t.nodes.length) : OkG (t.chs i) := by
  obtain ⟨p, hp, e, _⟩ := Tr.chs_node h0 hi
  rw [e]
  exact h.1 p (List.mem_of_getElem? hp)
theorem Tr.chs_ne {t : Tr} (h : t.Ok) {i : Nat} (h0 : i ≠ 0) (hi : i ≤ t.nodes.length) : t.chs i ≠ [] := by
  obtain ⟨p, hp, e, _⟩ := Tr.chs_node h0 hi
  rw [e]
  exact (h.2.2 _ p hp).2
theorem Tr.way_len {t : Tr} (h : t.Ok) (hl : t.Lim) : ∀ (s a b : Nat), a + b ≤ s → a ≤ t.nodes.length → b ≤ t.nodes.length → (t.way a b).length ≤ (a + b) * 1048576
  | s, a, b, hs, ha, hb => by
    rcases Nat.lt_trichotomy a b with hab | hab | hab
    · have hu := Tr.up_lt h (n := b) (by omega) hb
      rw [Tr.way_down h hb hab, List.length_append]
      have h1 := (Tr.chs_ok hl (i := b) (by omega) hb).1
      cases s with
      | zero => omega
      | succ s =>
        have h2 := Tr.way_len h hl s a (t.up b) (by omega) ha (by omega)
        have h3 : (a + t.up b) * 1048576 + 1048576 ≤ (a + b) * 1048576 := by omega
        omega
    · subst hab
      rw [Tr.way_self h]
      exact Nat.zero_le _
    · have hu := Tr.up_lt h (n := a) (by omega) ha
      rw [Tr.way_up h ha hab, List.length_append]
      have h1 := (Tr.chs_ok hl (i := a) (by omega) ha).1
      have h4 : (backC (t.chs a)).length = (t.chs a).length := by simp [backC]
      cases s with
      | zero => omega
      | succ s =>
        have h2 := Tr.way_len h hl s (t.up a) b (by omega) (by omega) hb
        have h3 : (t.up a + b) * 1048576 + 1048576 ≤ (a + b) * 1048576 := by omega
        omega
/-- the changes that the iterator's numbers name -/
def chAt (cs : List Ch) (i : Nat) : Ch := cs.getD i ⟨0, [], []⟩
theorem chAt_eq {cs : List Ch} {i : Nat} {x : Ch} (h : cs[i]? = some x) : chAt cs i = x := by
  unfold chAt
  rw [List.getD_eq_getElem?_getD, h, Option.getD_some]
theorem dn_map {α : Type} (f : Nat → α) (L : List α) (h : ∀ i x, L[i]? = some x → f i = x) : (dn L.length).map f = L.reverse := by
  unfold dn
  rw [List.map_reverse]
  congr 1
  refine List.ext_getElem? (fun i => ?_)
  rw [List.getElem?_map]
  by_cases hi : i < L.length
  · rw [List.getElem?_range hi, Option.map_some, List.getElem?_eq_getElem hi, h i _ (List.getElem?_eq_getElem hi)]
  · rw [List.getElem?_eq_none (by simp; omega), List.getElem?_eq_none (by omega), Option.map_none]
theorem dn_back (cs : List Ch) : (dn cs.length).map (fun i => turnC (chAt cs i)) = backC cs := by
  have := dn_map (fun i => turnC (chAt cs i)) (cs.map turnC) (fun i x hx => by
    rw [List.getElem?_map] at hx
    cases hc : cs[i]? with
    | none => rw [hc] at hx; cases hx
    | some y => rw [hc] at hx; rw [chAt_eq hc]; simpa using hx)
  rw [List.length_map] at this
  exact this
end Go.Proofs.Ytalhiedbhcklgaa.U
