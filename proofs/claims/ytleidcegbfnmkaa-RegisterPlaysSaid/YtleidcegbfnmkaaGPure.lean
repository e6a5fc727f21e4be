/-
  Registers as a list by rising names. Plain mathematics.
-/
import Derived.Test.YtleidcegbfnmkaaLBase
namespace Go.Proofs.Ytleidcegbfnmkaa.U
open Go.RowKit
set_option linter.unusedVariables false
set_option linter.unusedSimpArgs false
set_option maxRecDepth 100000

structure Rg where
  k : Int
  L : List (List Int)
deriving DecidableEq
abbrev Nm := Int × Rg
def rg0 : Rg := ⟨0, []⟩
def nm0 : Nm := (0, rg0)
def holdsR (s : List Nm) (n : Int) : Option Rg := (s.find? (fun x => x.1 == n)).map (·.2)
def setA (n : Int) (r : Rg) : Bool → List Nm → List Nm
  | put, [] => if put then [] else [(n, r)]
  | put, (q, o) :: t => (if !put && decide (n ≤ q) then [(n, r)] else []) ++ (if q = n then [] else [(q, o)]) ++ setA n r (put || decide (n ≤ q)) t
def setR (s : List Nm) (n : Int) (r : Rg) : List Nm := setA n r false s
def bigR (c : Int) : Bool := decide (65 ≤ c) && decide (c ≤ 90)
def littleR (c : Int) : Bool := decide (97 ≤ c) && decide (c ≤ 122)
def sizeR (L : List (List Int)) : Nat := sizeN (lens L)
def joinR (a b : Rg) : Rg := if a.k = 0 ∧ b.k = 0 then ⟨0, a.L.dropLast ++ [a.L.getLastD [] ++ b.L.headD []] ++ b.L.tail⟩ else ⟨1, a.L ++ b.L⟩
def normR (r : Rg) : Rg := if r.L = [] then ⟨r.k, [[]]⟩ else r
def badR (n : Int) (r : Rg) : Bool := (decide (n ≠ 0) && decide (n ≠ 34) && decide (n ≠ 95) && !littleR n && !bigR n) || decide (r.k < 0) || decide (2 < r.k) || decide (65536 < sizeR r.L)
def stepS (s : List Nm) (n : Int) : List Nm := match holdsR s (n - 1) with | some r => setR s n r | none => s
def shiftR : Nat → List Nm → List Nm
  | 0, s => s
  | j + 1, s => stepS (shiftR j s) (57 - j)
def finR (s : List Nm) (n : Int) (r : Rg) : List Nm := setR (setR s n r) 34 r
def grownR (s : List Nm) (n : Int) (r : Rg) : Rg := match holdsR s n with | some was => joinR was r | none => r
def putR (s : List Nm) (n : Int) (r : Rg) (d : Bool) : List Nm × Int :=
  if badR n r then (s, 1)
  else if n = 95 then (s, 0)
  else if bigR n then
    (if 65536 < sizeR (grownR s (n + 32) (normR r)).L then (s, 3) else (finR s (n + 32) (grownR s (n + 32) (normR r)), 0))
  else if littleR n then (finR s n (normR r), 0)
  else if !d then (finR s 48 (normR r), 0)
  else if (normR r).k = 1 ∨ 1 < (normR r).L.length then (finR (shiftR 8 s) 49 (normR r), 0)
  else (finR s 45 (normR r), 0)
def nameG (n : Int) : Int := if bigR (if n = 0 then 34 else n) then (if n = 0 then 34 else n) + 32 else (if n = 0 then 34 else n)
def mayG (n : Int) : Bool := decide (n = 34) || decide (n = 95) || decide (n = 45) || littleR n || (decide (48 ≤ n) && decide (n ≤ 57))
def getR (s : List Nm) (n : Int) : Rg × Int :=
  if mayG (nameG n) then (match holdsR s (nameG n) with | some r => (r, 0) | none => (rg0, 26)) else (rg0, 1)

theorem setA_holds {n : Int} {r : Rg} (m : Int) : ∀ (put : Bool) (s : List Nm), holdsR (setA n r put s) m = if m = n then (if put then none else some r) else holdsR s m
  | put, [] => by
    by_cases h : m = n
    · subst h; cases put <;> simp [setA, holdsR]
    · have h' : ¬ n = m := fun e => h e.symm
      cases put <;> simp [setA, holdsR, h, h']
  | put, (q, o) :: t => by
    have ih := setA_holds (n := n) (r := r) m (put || decide (n ≤ q)) t
    unfold holdsR at ih ⊢
    by_cases h : m = n
    · subst h
      simp only [setA, if_true, List.append_assoc, List.find?_append] at ih ⊢
      cases put
      · by_cases hq : m ≤ q
        · simp [hq]
        · have : ¬ q = m := by omega
          have h2 : (q == m) = false := by simpa using this
          simp [hq, this, h2] at ih ⊢
          exact ih
      · by_cases hq : q = m
        · simp [hq] at ih ⊢
          exact ih
        · have h2 : (q == m) = false := by simpa using hq
          simp [hq, h2] at ih ⊢
          exact ih
    · have h' : (n == m) = false := by simpa using fun e : n = m => h e.symm
      rw [if_neg h] at ih ⊢
      simp only [setA, List.append_assoc, List.find?_append]
      have h1 : (if !put && decide (n ≤ q) then [(n, r)] else []).find? (fun x => x.1 == m) = none := by
        split <;> simp [h']
      rw [h1, Option.none_or]
      by_cases hq : q = n
      · have h2 : (q == m) = false := by rw [hq]; exact h'
        rw [if_pos hq, List.find?_nil, Option.none_or, ih, List.find?_cons]
        simp [h2]
      · rw [if_neg hq]
        simp only [List.find?_cons, List.find?_nil]
        cases h3 : (q == m)
        · simp only [Option.none_or]
          exact ih
        · simp
theorem holds_set (s : List Nm) (n m : Int) (r : Rg) : holdsR (setR s n r) m = if m = n then some r else holdsR s m := by
  unfold setR
  rw [setA_holds]
  rfl
theorem setA_mem {r : Int} {p : Rg} : ∀ {ns : List Nm} (put : Bool), ns.Pairwise (fun a b => a.1 < b.1) → ∀ x, x ∈ setA r p put ns ↔ (x ∈ ns ∧ x.1 ≠ r) ∨ (put = false ∧ x = (r, p))
  | [], put, _, x => by cases put <;> simp [setA]
  | (q, o) :: t, put, h, x => by
    rw [List.pairwise_cons] at h
    have ih := setA_mem (r := r) (p := p) (put || decide (r ≤ q)) h.2 x
    simp only [setA, List.mem_append, ih, List.mem_cons]
    cases put <;> by_cases hq : q = r <;> by_cases hr : r ≤ q <;> simp [hq, hr] <;> grind
theorem setA_sorted {r : Int} {p : Rg} : ∀ {ns : List Nm} (put : Bool), ns.Pairwise (fun a b => a.1 < b.1) → (put = true → ∀ x ∈ ns, r ≤ x.1) → (setA r p put ns).Pairwise (fun a b => a.1 < b.1)
  | [], put, _, _ => by cases put <;> simp [setA]
  | (q, o) :: t, put, h, hr => by
    rw [List.pairwise_cons] at h
    have hle : (put || decide (r ≤ q)) = true → r ≤ q := by
      intro e
      simp only [Bool.or_eq_true, decide_eq_true_eq] at e
      rcases e with e | e
      · exact hr e (q, o) (by simp)
      · exact e
    have ih := setA_sorted (r := r) (p := p) (put || decide (r ≤ q)) h.2 (fun e x hx => by have := h.1 x hx; have := hle e; simp only at *; omega)
    have hm := fun x => setA_mem (r := r) (p := p) (put || decide (r ≤ q)) h.2 x
    simp only [setA]
    rw [List.append_assoc, List.pairwise_append, List.pairwise_append]
    refine ⟨by split <;> simp, ⟨by split <;> simp, ih, ?_⟩, ?_⟩
    · intro a ha b hb
      split at ha
      · cases ha
      · simp only [List.mem_singleton] at ha
        subst ha
        rcases (hm b).1 hb with h1 | h1
        · exact h.1 b h1.1
        · rw [h1.2]
          simp only [Bool.or_eq_false_iff, decide_eq_false_iff_not] at h1
          simp only
          omega
    · intro a ha b hb
      split at ha
      · rename_i hc
        simp only [Bool.and_eq_true, Bool.not_eq_true', decide_eq_true_eq] at hc
        simp only [List.mem_singleton] at ha
        subst ha
        rcases List.mem_append.1 hb with h1 | h1
        · split at h1
          · cases h1
          · simp only [List.mem_singleton] at h1
            subst h1
            simp only
            omega
        · rcases (hm b).1 h1 with h2 | h2
          · have := h.1 b h2.1
            simp only at *
            omega
          · simp only [Bool.or_eq_false_iff, decide_eq_false_iff_not] at h2
            exact absurd hc.2 h2.1.2
      · cases ha
theorem setR_sorted {ns : List Nm} {r : Int} {p : Rg} (h : ns.Pairwise (fun a b => a.1 < b.1)) : (setR ns r p).Pairwise (fun a b => a.1 < b.1) := setA_sorted false h (fun e => by cases e)
theorem setR_mem {ns : List Nm} {r : Int} {p : Rg} (h : ns.Pairwise (fun a b => a.1 < b.1)) (x : Nm) : x ∈ setR ns r p ↔ (x ∈ ns ∧ x.1 ≠ r) ∨ x = (r, p) := by
  unfold setR
  rw [setA_mem false h x]
  simp
/-- what a register may hold -/
def Rg.ok (r : Rg) : Prop := 0 ≤ r.k ∧ r.k ≤ 2 ∧ r.L ≠ [] ∧ sizeR r.L ≤ 65536
/-- registers that may be -/
def OkS (s : List Nm) : Prop := s.Pairwise (fun a b => a.1 < b.1) ∧ ∀ x ∈ s, 34 ≤ x.1 ∧ x.1 ≤ 122 ∧ x.2.ok
theorem rising_len : ∀ (s : List Nm) (lo hi : Int), s.Pairwise (fun a b => a.1 < b.1) → (∀ x ∈ s, lo ≤ x.1 ∧ x.1 ≤ hi) → s.length ≤ (hi + 1 - lo).toNat
  | [], _, _, _, _ => Nat.zero_le _
  | x :: s, lo, hi, h, hb => by
    rw [List.pairwise_cons] at h
    have h0 := hb x (by simp)
    have ih := rising_len s (x.1 + 1) hi h.2 (fun y hy => ⟨by have := h.1 y hy; omega, (hb y (by simp [hy])).2⟩)
    rw [List.length_cons]
    omega
theorem OkS.len {s : List Nm} (h : OkS s) : s.length ≤ 89 := by
  have := rising_len s 34 122 h.1 (fun x hx => ⟨(h.2 x hx).1, (h.2 x hx).2.1⟩)
  simpa using this
theorem OkS.nil : OkS [] := ⟨List.Pairwise.nil, fun x hx => by cases hx⟩
theorem OkS.set {s : List Nm} (h : OkS s) {n : Int} {r : Rg} (h1 : 34 ≤ n) (h2 : n ≤ 122) (hr : r.ok) : OkS (setR s n r) := by
  refine ⟨setR_sorted h.1, fun x hx => ?_⟩
  rcases (setR_mem h.1 x).1 hx with e | e
  · exact h.2 x e.1
  · rw [e]; exact ⟨h1, h2, hr⟩
theorem holds_mem {s : List Nm} {n : Int} {r : Rg} (h : holdsR s n = some r) : (n, r) ∈ s := by
  unfold holdsR at h
  cases hf : s.find? (fun x => x.1 == n) with
  | none => rw [hf] at h; cases h
  | some x =>
    rw [hf] at h
    simp only [Option.map_some, Option.some.injEq] at h
    have h1 := List.mem_of_find?_eq_some hf
    have h2 := List.find?_some hf
    simp only [beq_iff_eq] at h2
    rw [← h, ← h2]
    exact h1
theorem OkS.holds {s : List Nm} (h : OkS s) {n : Int} {r : Rg} (e : holdsR s n = some r) : r.ok := (h.2 _ (holds_mem e)).2.2
theorem OkS.step {s : List Nm} (h : OkS s) {n : Int} (h1 : 34 ≤ n) (h2 : n ≤ 122) : OkS (stepS s n) := by
  unfold stepS
  cases e : holdsR s (n - 1) with
  | none => exact h
  | some r => exact h.set h1 h2 (h.holds e)
theorem OkS.shift {s : List Nm} (h : OkS s) : ∀ {j : Nat}, j ≤ 8 → OkS (shiftR j s)
  | 0, _ => h
  | j + 1, hj => (OkS.shift h (j := j) (by omega)).step (by omega) (by omega)
theorem OkS.fin {s : List Nm} (h : OkS s) {n : Int} {r : Rg} (h1 : 34 ≤ n) (h2 : n ≤ 122) (hr : r.ok) : OkS (finR s n r) := (h.set h1 h2 hr).set (by omega) (by omega) hr
theorem norm_ok {r : Rg} (h1 : 0 ≤ r.k) (h2 : r.k ≤ 2) (h3 : sizeR r.L ≤ 65536) : (normR r).ok := by
  unfold normR
  split
  · exact ⟨h1, h2, by simp, by simp [sizeR, lens, sizeN]⟩
  · rename_i h; exact ⟨h1, h2, h, h3⟩
theorem size_app (A B : List (List Int)) : sizeR (A ++ B) = sizeR A + sizeR B := by unfold sizeR; rw [lens_append, sizeN_append]
theorem join_size {a b : Rg} (ha : a.L ≠ []) (hb : b.L ≠ []) : sizeR (joinR a b).L ≤ sizeR a.L + sizeR b.L ∧ (joinR a b).L ≠ [] ∧ 0 ≤ (joinR a b).k ∧ (joinR a b).k ≤ 2 := by
  unfold joinR
  split
  · refine ⟨?_, by simp, by simp, by simp⟩
    obtain ⟨A, x, ea⟩ : ∃ A x, a.L = A ++ [x] := ⟨_, _, (List.dropLast_concat_getLast ha).symm⟩
    obtain ⟨y, B, eb⟩ : ∃ y B, b.L = y :: B := List.exists_cons_of_ne_nil hb
    rw [ea, eb]
    simp only [List.dropLast_concat, List.getLastD_concat, List.headD_cons, List.tail_cons]
    simp only [size_app]
    simp [sizeR, lens, sizeN]
    omega
  · exact ⟨by rw [size_app]; omega, by simp [ha], by simp, by simp⟩
theorem grown_ok {s : List Nm} (h : OkS s) (n : Int) {r : Rg} (hr : r.ok) (hs : sizeR (grownR s n r).L ≤ 65536) : (grownR s n r).ok := by
  unfold grownR at hs ⊢
  cases e : holdsR s n with
  | none => exact hr
  | some was =>
    rw [e] at hs
    have h1 := join_size (h.holds e).2.2.1 hr.2.2.1
    exact ⟨h1.2.2.1, h1.2.2.2, h1.2.1, hs⟩
theorem put_ok {s : List Nm} (h : OkS s) (n : Int) (r : Rg) (d : Bool) : OkS (putR s n r d).1 := by
  unfold putR
  by_cases hb : badR n r = true
  · rw [if_pos hb]; exact h
  · rw [if_neg hb]
    have hb' : badR n r = false := by simpa using hb
    unfold badR at hb'
    simp only [Bool.or_eq_false_iff, decide_eq_false_iff_not] at hb'
    have hn := norm_ok (r := r) (by omega) (by omega) (by omega)
    by_cases h95 : n = 95
    · rw [if_pos h95]; exact h
    · rw [if_neg h95]
      by_cases hbig : bigR n = true
      · rw [if_pos hbig]
        have hb2 := hbig
        unfold bigR at hb2
        simp only [Bool.and_eq_true, decide_eq_true_eq] at hb2
        split
        · exact h
        · exact h.fin (by omega) (by omega) (grown_ok h _ hn (by omega))
      · rw [if_neg hbig]
        by_cases hl : littleR n = true
        · rw [if_pos hl]
          have hl2 := hl
          unfold littleR at hl2
          simp only [Bool.and_eq_true, decide_eq_true_eq] at hl2
          exact h.fin (by omega) (by omega) hn
        · rw [if_neg hl]
          split
          · exact h.fin (by omega) (by omega) hn
          · split
            · exact (h.shift (Nat.le_refl 8)).fin (by omega) (by omega) hn
            · exact h.fin (by omega) (by omega) hn
end Go.Proofs.Ytleidcegbfnmkaa.U
