/-
  The program's registers: an array of them, and which one was put into last. Plain mathematics: what they hold, as a list by rising names.
-/
import Derived.Test.YtleidcegbfnmkaaGLaw
namespace Go.Proofs.Ytleidcegbfnmkaa.U
open Go.RowKit
set_option linter.unusedVariables false
set_option linter.unusedSimpArgs false
set_option maxRecDepth 100000

def namesH : List Int := [34, 45, 48, 49, 50, 51, 52, 53, 54, 55, 56, 57, 97, 98, 99, 100, 101, 102, 103, 104, 105, 106, 107, 108, 109, 110, 111, 112, 113, 114, 115, 116, 117, 118, 119, 120, 121, 122]
/-- where what stands under a name that is not " -/
def plI (n : Int) : Nat := if n = 45 then 0 else if n ≤ 57 then (n - 47).toNat else (n - 86).toNat
def plN (last : Nat) (n : Int) : Nat := if n = 34 then last else plI n
def heldH (r : Rg) : Option Rg := if r.L = [] then none else some r
def atH (H : Nat → Rg) (last : Nat) (n : Int) : Option Rg := heldH (H (plN last n))
def listH (f : Int → Option Rg) (ns : List Int) : List Nm := ns.filterMap (fun n => (f n).map (fun r => (n, r)))
def allH (H : Nat → Rg) (last : Nat) : List Nm := listH (atH H last) namesH
def updH (H : Nat → Rg) (i : Nat) (r : Rg) : Nat → Rg := fun j => if j = i then r else H j
def shH (H : Nat → Rg) : Nat → Rg := fun j => if 3 ≤ j ∧ j ≤ 10 then H (j - 1) else H j
structure OkH (H : Nat → Rg) (last : Nat) : Prop where
  last : last < 37
  ok : ∀ i, i < 37 → (H i).L = [] ∨ (H i).ok
  con : ∀ i, 2 ≤ i → i < 10 → (H i).L = [] → (H (i + 1)).L = []

theorem mem_names (m : Int) : m ∈ namesH ↔ nmB m = true := by
  unfold namesH nmB littleR
  simp only [List.mem_cons, List.not_mem_nil, or_false, Bool.or_eq_true, Bool.and_eq_true, decide_eq_true_eq]
  omega
theorem names_rise : namesH.Pairwise (· < ·) := by decide
theorem listH_holds (f : Int → Option Rg) (m : Int) : ∀ ns : List Int, ns.Pairwise (· < ·) → holdsR (listH f ns) m = if m ∈ ns then f m else none
  | [], _ => by simp [listH, holdsR]
  | n :: t, h => by
    rw [List.pairwise_cons] at h
    have ih := listH_holds f m t h.2
    unfold listH at ih ⊢
    rw [List.filterMap_cons]
    cases hf : f n with
    | none =>
      simp only [Option.map_none]
      rw [ih]
      by_cases hm : m = n
      · subst hm
        rw [if_neg (fun e => by have := h.1 _ e; omega), if_pos (by simp), hf]
      · by_cases ht : m ∈ t
        · rw [if_pos ht, if_pos (by simp [ht])]
        · rw [if_neg ht, if_neg (by simp [ht, hm])]
    | some r =>
      simp only [Option.map_some]
      by_cases hm : m = n
      · subst hm
        rw [if_pos (by simp), hf]
        simp [holdsR]
      · have e : holdsR ((n, r) :: t.filterMap (fun n => (f n).map (fun r => (n, r)))) m = holdsR (t.filterMap (fun n => (f n).map (fun r => (n, r)))) m := by
          unfold holdsR
          rw [List.find?_cons_of_neg (by simpa using fun e => hm e.symm)]
        rw [e, ih]
        by_cases ht : m ∈ t
        · rw [if_pos ht, if_pos (by simp [ht])]
        · rw [if_neg ht, if_neg (by simp [ht, hm])]
theorem listH_mem (f : Int → Option Rg) (ns : List Int) (x : Nm) (h : x ∈ listH f ns) : x.1 ∈ ns ∧ f x.1 = some x.2 := by
  unfold listH at h
  rw [List.mem_filterMap] at h
  obtain ⟨n, hn, e⟩ := h
  cases hf : f n with
  | none => rw [hf] at e; cases e
  | some r =>
    rw [hf] at e
    simp only [Option.map_some, Option.some.injEq] at e
    subst e
    exact ⟨hn, hf⟩
theorem listH_sorted (f : Int → Option Rg) : ∀ ns : List Int, ns.Pairwise (· < ·) → (listH f ns).Pairwise (fun a b => a.1 < b.1)
  | [], _ => List.Pairwise.nil
  | n :: t, h => by
    rw [List.pairwise_cons] at h
    have ih := listH_sorted f t h.2
    have hc : listH f (n :: t) = (match (f n).map (fun r => (n, r)) with | none => listH f t | some b => b :: listH f t) := by unfold listH; rw [List.filterMap_cons]; cases f n <;> rfl
    rw [hc]
    cases f n with
    | none => exact ih
    | some r =>
      show ((n, r) :: listH f t).Pairwise _
      rw [List.pairwise_cons]
      exact ⟨fun x hx => h.1 _ (listH_mem f t x hx).1, ih⟩
theorem sorted_ext : ∀ {s t : List Nm}, s.Pairwise (fun a b => a.1 < b.1) → t.Pairwise (fun a b => a.1 < b.1) → (∀ x, x ∈ s ↔ x ∈ t) → s = t
  | [], [], _, _, _ => rfl
  | [], y :: t, _, _, h => by have := (h y).2 (by simp); cases this
  | x :: s, [], _, _, h => by have := (h x).1 (by simp); cases this
  | x :: s, y :: t, hs, ht, h => by
    rw [List.pairwise_cons] at hs ht
    have e : x = y := by
      have h1 := (h x).1 (by simp)
      have h2 := (h y).2 (by simp)
      rw [List.mem_cons] at h1 h2
      rcases h1 with e | e
      · exact e
      · rcases h2 with e2 | e2
        · exact e2.symm
        · have := ht.1 x e
          have := hs.1 y e2
          omega
    subst e
    rw [sorted_ext hs.2 ht.2 (fun z => ?_)]
    constructor
    · intro hz
      have := (h z).1 (by simp [hz])
      rw [List.mem_cons] at this
      rcases this with e | e
      · have := hs.1 z hz
        rw [e] at this
        omega
      · exact e
    · intro hz
      have := (h z).2 (by simp [hz])
      rw [List.mem_cons] at this
      rcases this with e | e
      · have := ht.1 z hz
        rw [e] at this
        omega
      · exact e
theorem holds_ext {s t : List Nm} (hs : s.Pairwise (fun a b => a.1 < b.1)) (ht : t.Pairwise (fun a b => a.1 < b.1)) (h : ∀ m, holdsR s m = holdsR t m) : s = t := by
  refine sorted_ext hs ht (fun x => ⟨fun hx => ?_, fun hx => ?_⟩)
  · have := mem_holds hs hx
    rw [h] at this
    exact holds_mem this
  · have := mem_holds ht hx
    rw [← h] at this
    exact holds_mem this
theorem all_sorted (H : Nat → Rg) (last : Nat) : (allH H last).Pairwise (fun a b => a.1 < b.1) := listH_sorted _ _ names_rise
theorem all_holds (H : Nat → Rg) (last : Nat) (m : Int) : holdsR (allH H last) m = if nmB m then atH H last m else none := by
  unfold allH
  rw [listH_holds _ _ _ names_rise]
  by_cases h : nmB m = true
  · rw [if_pos h, if_pos ((mem_names m).2 h)]
  · rw [if_neg h, if_neg (fun e => h ((mem_names m).1 e))]
theorem plI_lt {m : Int} (h : nmB m = true) : plI m < 37 := by
  unfold nmB littleR at h
  simp only [Bool.or_eq_true, Bool.and_eq_true, decide_eq_true_eq] at h
  unfold plI
  split
  · omega
  · split <;> omega
theorem plI_inj {m n : Int} (h : nmB m = true) (k : nmB n = true) (hm : m ≠ 34) (hn : n ≠ 34) (e : plI m = plI n) : m = n := by
  unfold nmB littleR at h k
  simp only [Bool.or_eq_true, Bool.and_eq_true, decide_eq_true_eq] at h k
  unfold plI at e
  split at e <;> split at e <;> (try split at e) <;> (try split at e) <;> omega
theorem OkH.pl {H : Nat → Rg} {last : Nat} (h : OkH H last) {m : Int} (hm : nmB m = true) : plN last m < 37 := by
  unfold plN
  split
  · exact h.last
  · exact plI_lt hm
theorem held_ok {r x : Rg} (h : heldH r = some x) : x = r ∧ r.L ≠ [] := by
  unfold heldH at h
  split at h
  · cases h
  · rename_i hn; exact ⟨(Option.some.inj h).symm, hn⟩
theorem held_some {r : Rg} (h : r.L ≠ []) : heldH r = some r := by unfold heldH; rw [if_neg h]
theorem held_none {r : Rg} (h : r.L = []) : heldH r = none := by unfold heldH; rw [if_pos h]
theorem all_ok {H : Nat → Rg} {last : Nat} (h : OkH H last) : OkS (allH H last) := by
  refine ⟨all_sorted H last, fun x hx => ?_⟩
  obtain ⟨h1, h2⟩ := listH_mem _ _ x hx
  have hn := (mem_names _).1 h1
  obtain ⟨e1, e2⟩ := held_ok h2
  have hk := (h.ok _ (h.pl hn)).resolve_left e2
  rw [← e1] at hk
  unfold nmB littleR at hn
  simp only [Bool.or_eq_true, Bool.and_eq_true, decide_eq_true_eq] at hn
  exact ⟨by omega, by omega, hk⟩
theorem all_names (H : Nat → Rg) (last : Nat) : OkN (allH H last) := fun x hx => (mem_names _).1 (listH_mem _ _ x hx).1
theorem fin_pairs {s : List Nm} (hs : s.Pairwise (fun a b => a.1 < b.1)) (n : Int) (r : Rg) : (finR s n r).Pairwise (fun a b => a.1 < b.1) := setR_sorted (setR_sorted hs)
theorem atH_put (H : Nat → Rg) (t m : Int) (r : Rg) (hr : r.L ≠ []) (ht : nmB t = true) (h34 : t ≠ 34) (hm : nmB m = true) : atH (updH H (plI t) r) (plI t) m = if m = 34 ∨ m = t then some r else atH H 0 m := by
  unfold atH plN
  by_cases h : m = 34
  · rw [if_pos h, if_pos (.inl h)]
    unfold updH
    rw [if_pos rfl, held_some hr]
  · rw [if_neg h]
    by_cases h2 : m = t
    · rw [if_pos (.inr h2), h2]
      unfold updH
      rw [if_pos rfl, held_some hr]
    · rw [if_neg (by rintro (e | e); exact h e; exact h2 e), if_neg h]
      unfold updH
      rw [if_neg (fun e => h2 (plI_inj hm ht h h34 e))]
/-- something is put under a name -/
theorem fin_all (H : Nat → Rg) (last : Nat) (t : Int) (r : Rg) (hr : r.L ≠ []) (ht : nmB t = true) (h34 : t ≠ 34) : finR (allH H last) t r = allH (updH H (plI t) r) (plI t) := by
  refine holds_ext (fin_pairs (all_sorted _ _) _ _) (all_sorted _ _) (fun m => ?_)
  rw [holds_fin, all_holds, all_holds]
  by_cases hm : nmB m = true
  · rw [if_pos hm, if_pos hm, atH_put H t m r hr ht h34 hm]
    split
    · rfl
    · rename_i h
      unfold atH plN
      rw [if_neg (fun e => h (.inl e)), if_neg (fun e => h (.inl e))]
  · rw [if_neg hm, if_neg hm, if_neg]
    rintro (e | e)
    · rw [e] at hm; exact hm (by decide)
    · rw [e] at hm; exact hm ht
/-- lines are deleted -/
theorem shift_all {H : Nat → Rg} {last : Nat} (h : OkH H last) (r : Rg) (hr : r.L ≠ []) : finR (shiftR 8 (allH H last)) 49 r = allH (updH (shH H) 2 r) 2 := by
  have hk := shift_keeps (all_names H last) (all_sorted H last) 8 (Nat.le_refl _)
  refine holds_ext (fin_pairs hk.2 _ _) (all_sorted _ _) (fun m => ?_)
  rw [holds_fin, all_holds, holds_shift]
  have h2 : plI 49 = 2 := by decide
  by_cases hm : nmB m = true
  · rw [if_pos hm]
    have e := atH_put (shH H) 49 m r hr (by decide) (by decide) hm
    rw [h2] at e
    rw [e]
    by_cases h1 : m = 34 ∨ m = 49
    · rw [if_pos h1, if_pos h1]
    · rw [if_neg h1, if_neg h1]
      by_cases h3 : 57 - (8 : Nat) < m ∧ m ≤ 57
      · rw [if_pos h3, all_holds, all_holds, if_pos hm, if_pos (by unfold nmB; simp; omega)]
        obtain ⟨j, hj⟩ : ∃ j : Nat, m = 50 + (j : Int) := ⟨(m - 50).toNat, by omega⟩
        have hj7 : j ≤ 7 := by omega
        have p0 : plN last (m - 1) = j + 2 := by unfold plN plI; rw [if_neg (by omega), if_neg (by omega), if_pos (by omega)]; omega
        have p1 : plN last m = j + 3 := by unfold plN plI; rw [if_neg (by omega), if_neg (by omega), if_pos (by omega)]; omega
        have p2 : plN 0 m = j + 3 := by unfold plN plI; rw [if_neg (by omega), if_neg (by omega), if_pos (by omega)]; omega
        unfold atH
        rw [p0, p1, p2]
        have e3 : shH H (j + 3) = H (j + 2) := by unfold shH; rw [if_pos (by omega)]; rfl
        rw [e3]
        by_cases hL : (H (j + 2)).L = []
        · rw [held_none hL, held_none (h.con (j + 2) (by omega) (by omega) hL)]; rfl
        · rw [held_some hL]; rfl
      · rw [if_neg h3, all_holds, if_pos hm]
        have hn := hm
        unfold nmB littleR at hn
        simp only [Bool.or_eq_true, Bool.and_eq_true, decide_eq_true_eq] at hn
        unfold atH plN
        rw [if_neg (fun e => h1 (.inl e)), if_neg (fun e => h1 (.inl e))]
        have e3 : shH H (plI m) = H (plI m) := by
          unfold shH
          rw [if_neg]
          unfold plI
          split
          · omega
          · split <;> omega
        rw [e3]
  · have hm' := hm
    unfold nmB littleR at hm'
    simp only [Bool.or_eq_true, Bool.and_eq_true, decide_eq_true_eq] at hm'
    rw [if_neg hm, if_neg (by omega), if_neg (by omega), all_holds, if_neg hm]
theorem okH_upd {H : Nat → Rg} {last i : Nat} (h : OkH H last) (hi : i < 37) {r : Rg} (hr : r.ok) (h2 : i < 3 ∨ 10 < i ∨ (H i).L ≠ []) : OkH (updH H i r) i := by
  refine ⟨hi, fun j hj => ?_, fun j h3 h4 h5 => ?_⟩
  · unfold updH
    split
    · exact .inr hr
    · exact h.ok j hj
  · unfold updH at h5 ⊢
    by_cases e : j = i
    · rw [if_pos e] at h5
      exact absurd h5 hr.2.2.1
    · rw [if_neg e] at h5
      have hc := h.con j h3 h4 h5
      by_cases e2 : j + 1 = i
      · subst e2
        exfalso
        rcases h2 with q | q | q
        · omega
        · omega
        · exact q hc
      · rw [if_neg e2]; exact hc
theorem okH_shift {H : Nat → Rg} {last : Nat} (h : OkH H last) {r : Rg} (hr : r.ok) : OkH (updH (shH H) 2 r) 2 := by
  refine ⟨by omega, fun j hj => ?_, fun j h3 h4 h5 => ?_⟩
  · unfold updH shH
    split
    · exact .inr hr
    · split
      · exact h.ok (j - 1) (by omega)
      · exact h.ok j hj
  · unfold updH shH at h5 ⊢
    by_cases e : j = 2
    · rw [if_pos e] at h5
      exact absurd h5 hr.2.2.1
    · rw [if_neg e, if_pos (by omega)] at h5
      rw [if_neg (by omega), if_pos (by omega)]
      have := h.con (j - 1) (by omega) (by omega) h5
      rwa [show j - 1 + 1 = j + 1 - 1 by omega] at this
theorem okH_new : OkH (fun _ => rg0) 0 := ⟨by omega, fun _ _ => .inl rfl, fun _ _ _ _ => rfl⟩
theorem all_new : allH (fun _ => rg0) 0 = [] := by
  have : ∀ ns : List Int, listH (atH (fun _ => rg0) 0) ns = [] := by
    intro ns
    induction ns with
    | nil => rfl
    | cons n t ih => unfold listH at ih ⊢; rw [List.filterMap_cons]; exact ih
  exact this _
/-- one name more of the walk of All -/
theorem listH_snoc (f : Int → Option Rg) (ns : List Int) (n : Int) : listH f (ns ++ [n]) = listH f ns ++ (match f n with | some r => [(n, r)] | none => []) := by
  unfold listH
  rw [List.filterMap_append, List.filterMap_cons]
  cases f n <;> rfl
end Go.Proofs.Ytleidcegbfnmkaa.U
