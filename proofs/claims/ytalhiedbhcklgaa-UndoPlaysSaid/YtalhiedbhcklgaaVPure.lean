/-
  Changes of lines and the tree of what was done, as plain mathematics.
-/
import Derived.Test.YtalhiedbhcklgaaUBase
namespace Go.Proofs.Ytalhiedbhcklgaa.U
set_option linter.unusedVariables false
set_option linter.unusedSimpArgs false

/-- a change: where, what stood there, what stands there then -/
structure Ch where
  pos : Int
  old : List (List Int)
  now : List (List Int)
  deriving DecidableEq
/-- lines with a change done to them, and what is wrong -/
def doC (l : List (List Int)) (c : Ch) : List (List Int) × Int :=
  if 0 ≤ c.pos ∧ c.pos ≤ l.length ∧ (c.old.length : Int) ≤ l.length - c.pos ∧ (l.drop c.pos.toNat).take c.old.length = c.old then
    (if l.length - c.old.length + c.now.length = 0 then ([], 1) else (l.take c.pos.toNat ++ (c.now ++ l.drop (c.pos.toNat + c.old.length)), 0))
  else ([], 2)
def turnC (c : Ch) : Ch := ⟨c.pos, c.now, c.old⟩
theorem turn_turn (c : Ch) : turnC (turnC c) = c := rfl
theorem doC_ok {l : List (List Int)} {c : Ch} {r : List (List Int)} (h : doC l c = (r, 0)) : ∃ k : Nat, c.pos = k ∧ k + c.old.length ≤ l.length ∧ (l.drop k).take c.old.length = c.old ∧ r = l.take k ++ (c.now ++ l.drop (k + c.old.length)) ∧ r ≠ [] := by
  unfold doC at h
  split at h
  · next h1 =>
    split at h
    · next h2 => cases h
    · next h2 =>
      obtain ⟨a, b, d, e⟩ := h1
      refine ⟨c.pos.toNat, by omega, by omega, e, (Prod.mk.inj h).1.symm, ?_⟩
      rw [← (Prod.mk.inj h).1]
      intro e2
      have e3 := congrArg List.length e2
      simp only [List.length_append, List.length_take, List.length_drop, List.length_nil] at e3
      omega
  · next h1 => cases h
theorem doC_mk {l : List (List Int)} {c : Ch} {k : Nat} (hk : c.pos = k) (hle : k + c.old.length ≤ l.length) (he : (l.drop k).take c.old.length = c.old) (hne : l.take k ++ (c.now ++ l.drop (k + c.old.length)) ≠ []) :
    doC l c = (l.take k ++ (c.now ++ l.drop (k + c.old.length)), 0) := by
  unfold doC
  have h0 : c.pos.toNat = k := by omega
  rw [if_pos ⟨by omega, by omega, by omega, by rw [h0]; exact he⟩, h0, if_neg]
  intro e
  apply hne
  apply List.eq_nil_of_length_eq_zero
  simp only [List.length_append, List.length_take, List.length_drop]
  omega
/-- what was done is undone by the change turned -/
theorem do_turned {l r : List (List Int)} {c : Ch} (h : doC l c = (r, 0)) (hl : l ≠ []) : doC r (turnC c) = (l, 0) := by
  obtain ⟨k, hk, hle, he, hr, _⟩ := doC_ok h
  have hlk : (l.take k).length = k := by rw [List.length_take]; omega
  have d1 : r.drop k = c.now ++ l.drop (k + c.old.length) := by rw [hr, List.drop_left' hlk]
  have d2 : r.drop (k + c.now.length) = l.drop (k + c.old.length) := by rw [← List.drop_drop, d1, List.drop_left]
  have t1 : r.take k = l.take k := by rw [hr, List.take_left' hlk]
  have hl2 : r.take k ++ ((turnC c).now ++ r.drop (k + (turnC c).old.length)) = l := by
    show r.take k ++ (c.old ++ r.drop (k + c.now.length)) = l
    rw [t1, d2]
    conv => rhs; rw [← List.take_append_drop k l, ← List.take_append_drop c.old.length (l.drop k), he, List.drop_drop]
  have := doC_mk (l := r) (c := turnC c) (k := k) hk (by
    show k + c.now.length ≤ r.length
    rw [hr]
    simp only [List.length_append, List.length_take, List.length_drop]
    omega) (by
    show (r.drop k).take c.now.length = c.now
    rw [d1, List.take_left]) (by rw [hl2]; exact hl)
  rw [this, hl2]

/-- changes done, one behind the other -/
def doAll : List (List Int) → List Ch → Option (List (List Int))
  | l, [] => some l
  | l, c :: r => if (doC l c).2 = 0 then doAll (doC l c).1 r else none
theorem doAll_append (l : List (List Int)) (a b : List Ch) : doAll l (a ++ b) = (doAll l a).bind fun x => doAll x b := by
  induction a generalizing l with
  | nil => rfl
  | cons c r ih =>
    simp only [List.cons_append, doAll]
    split
    · exact ih _
    · rfl
theorem doAll_ne {l r : List (List Int)} {cs : List Ch} (h : doAll l cs = some r) (hl : l ≠ []) : r ≠ [] := by
  induction cs generalizing l with
  | nil => cases h; exact hl
  | cons c cs ih =>
    simp only [doAll] at h
    split at h
    · next h1 =>
      obtain ⟨k, _, _, _, _, hne⟩ := doC_ok (l := l) (c := c) (r := (doC l c).1) (by rw [← h1])
      exact ih h hne
    · cases h
def backC (cs : List Ch) : List Ch := (cs.map turnC).reverse
theorem backC_nil : backC [] = [] := rfl
theorem backC_append (a b : List Ch) : backC (a ++ b) = backC b ++ backC a := by simp [backC]
theorem backC_snoc (a : List Ch) (c : Ch) : backC (a ++ [c]) = turnC c :: backC a := by simp [backC]
theorem backC_cons (a : List Ch) (c : Ch) : backC (c :: a) = backC a ++ [turnC c] := by simp [backC]
theorem doAll_back {l r : List (List Int)} {cs : List Ch} (h : doAll l cs = some r) (hl : l ≠ []) : doAll r (backC cs) = some l := by
  induction cs generalizing l with
  | nil => cases h; rfl
  | cons c cs ih =>
    simp only [doAll] at h
    split at h
    · next h1 =>
      have h2 : doC l c = ((doC l c).1, 0) := by rw [← h1]
      obtain ⟨k, _, _, _, _, hne⟩ := doC_ok h2
      rw [backC_cons, doAll_append, ih h hne]
      show doAll (doC l c).1 [turnC c] = some l
      simp only [doAll]
      rw [do_turned h2 hl]
      rfl
    · cases h

/-- the tree: nodes from 1 on (each on which one, what was done), where it is, is a group open, what it has -/
structure Tr where
  nodes : List (Nat × List Ch)
  here : Nat
  isOpen : Bool
  group : List Ch
def Tr.zero : Tr := ⟨[], 0, false, []⟩
def Tr.begin_ (t : Tr) : Tr := { t with isOpen := true }
def Tr.end_ (t : Tr) : Tr :=
  if t.group = [] then { t with isOpen := false }
  else if t.nodes.length = 4096 then ⟨[(0, t.group)], 1, false, []⟩
  else ⟨t.nodes ++ [(t.here, t.group)], t.nodes.length + 1, false, []⟩
def Tr.add (t : Tr) (c : Ch) : Tr :=
  if c.old = [] ∧ c.now = [] then t
  else if t.isOpen then { t with group := t.group ++ [c] } else Tr.end_ { t with group := t.group ++ [c] }
def Tr.up (t : Tr) (n : Nat) : Nat := (t.nodes.getD (n - 1) (0, [])).1
def Tr.chs (t : Tr) (n : Nat) : List Ch := (t.nodes.getD (n - 1) (0, [])).2
/-- Undo (errors: 6 is ErrUndo here; the walk's text names the code) -/
def Tr.undo (t : Tr) : Tr × Option (List Ch) :=
  if t.end_.here = 0 then (t.end_, none) else ({ t.end_ with here := t.end_.up t.end_.here }, some (backC (t.end_.chs t.end_.here)))
/-- the last one made of the first i nodes that stands on the one where it is (0: none) -/
def Tr.last (t : Tr) : Nat → Nat
  | 0 => 0
  | i + 1 => if t.up (i + 1) = t.here then i + 1 else t.last i
def Tr.redo (t : Tr) : Tr × Option (List Ch) :=
  if t.end_.last t.end_.nodes.length = 0 then (t.end_, none)
  else ({ t.end_ with here := t.end_.last t.end_.nodes.length }, some (t.end_.chs (t.end_.last t.end_.nodes.length)))
/-- does n stand on u, or is it that? (f: as many steps as may be) -/
def Tr.over (t : Tr) (u : Nat) : Nat → Nat → Bool
  | 0, n => decide (n = u)
  | f + 1, n => if n = u then true else if n = 0 then false else t.over u f (t.up n)
/-- the changes down from u to n -/
def Tr.down (t : Tr) (u : Nat) : Nat → Nat → List Ch
  | 0, _ => []
  | f + 1, n => if n = u then [] else t.down u f (t.up n) ++ t.chs n
/-- the changes up from u to the nearest node over which n is -/
def Tr.rise (t : Tr) (n : Nat) : Nat → Nat → List Ch × Nat
  | 0, u => ([], u)
  | f + 1, u => if t.over u n n then ([], u) else (backC (t.chs u) ++ (t.rise n f (t.up u)).1, (t.rise n f (t.up u)).2)
def Tr.path (t : Tr) (n : Nat) : List Ch := (t.rise n t.here t.here).1 ++ t.down (t.rise n t.here t.here).2 n n

/-- a tree in order -/
def Tr.Ok (t : Tr) : Prop := t.nodes.length ≤ 4096 ∧ t.here ≤ t.nodes.length ∧ ∀ (i : Nat) (p : Nat × List Ch), t.nodes[i]? = some p → p.1 ≤ i ∧ p.2 ≠ []
theorem Tr.up_lt {t : Tr} (h : t.Ok) {n : Nat} (h0 : n ≠ 0) (hn : n ≤ t.nodes.length) : t.up n < n := by
  unfold Tr.up
  have hl : n - 1 < t.nodes.length := by omega
  rw [List.getD_eq_getElem?_getD, List.getElem?_eq_getElem hl, Option.getD_some]
  have := (h.2.2 (n - 1) _ (List.getElem?_eq_getElem hl)).1
  omega
theorem Tr.over_self (t : Tr) (f n : Nat) : t.over n f n = true := by cases f <;> simp [Tr.over]
theorem Tr.over_zero {t : Tr} (h : t.Ok) : ∀ (f n : Nat), n ≤ f → n ≤ t.nodes.length → t.over 0 f n = true
  | 0, n, hf, _ => by simp [Tr.over]; omega
  | f + 1, n, hf, hn => by
    unfold Tr.over
    by_cases h0 : n = 0
    · rw [if_pos h0]
    · rw [if_neg h0, if_neg h0]
      have := Tr.up_lt h h0 hn
      exact Tr.over_zero h f _ (by omega) (by omega)
/-- what the lines are at each node -/
def Tr.Sem (t : Tr) (st : Nat → List (List Int)) : Prop := ∀ n, n ≠ 0 → n ≤ t.nodes.length → doAll (st (t.up n)) (t.chs n) = some (st n)
theorem Tr.down_leads {t : Tr} {st : Nat → List (List Int)} (h : t.Ok) (hs : t.Sem st) (u : Nat) : ∀ (f n : Nat), n ≤ f → n ≤ t.nodes.length → t.over u f n = true → doAll (st u) (t.down u f n) = some (st n)
  | 0, n, hf, hn, ho => by
    simp [Tr.over] at ho
    subst ho
    rfl
  | f + 1, n, hf, hn, ho => by
    unfold Tr.over at ho
    unfold Tr.down
    by_cases h0 : n = u
    · subst h0; rw [if_pos rfl]; rfl
    · rw [if_neg h0] at ho ⊢
      by_cases h1 : n = 0
      · rw [if_pos h1] at ho; cases ho
      · rw [if_neg h1] at ho
        have hu := Tr.up_lt h h1 hn
        rw [doAll_append, Tr.down_leads h hs u f _ (by omega) (by omega) ho]
        exact hs n h1 hn
theorem Tr.rise_leads {t : Tr} {st : Nat → List (List Int)} (h : t.Ok) (hs : t.Sem st) (hne : st 0 ≠ []) (n : Nat) (hn : n ≤ t.nodes.length) : ∀ (f u : Nat), u ≤ f → u ≤ t.nodes.length → st u ≠ [] →
    doAll (st u) (t.rise n f u).1 = some (st (t.rise n f u).2) ∧ t.over (t.rise n f u).2 n n = true ∧ (t.rise n f u).2 ≤ u
  | 0, u, hf, _, _ => by
    obtain rfl : u = 0 := by omega
    exact ⟨rfl, Tr.over_zero h n n (Nat.le_refl _) hn, Nat.le_refl _⟩
  | f + 1, u, hf, hu, hun => by
    unfold Tr.rise
    by_cases ho : t.over u n n = true
    · rw [if_pos ho]; exact ⟨rfl, ho, Nat.le_refl _⟩
    · rw [if_neg ho]
      have hu0 : u ≠ 0 := by
        intro e
        subst e
        exact ho (Tr.over_zero h n n (Nat.le_refl _) hn)
      have hlt := Tr.up_lt h hu0 hu
      have hstep := hs u hu0 hu
      have hup : st (t.up u) ≠ [] := Tr.sem_ne h hs hne (t.up u) (t.up u) (Nat.le_refl _) (by omega)
      obtain ⟨q1, q2, q3⟩ := Tr.rise_leads h hs hne n hn f (t.up u) (by omega) (by omega) hup
      refine ⟨?_, q2, by simp only; omega⟩
      simp only
      rw [doAll_append, doAll_back hstep hup]
      exact q1
where
  Tr.sem_ne {t : Tr} {st : Nat → List (List Int)} (h : t.Ok) (hs : t.Sem st) (hne : st 0 ≠ []) : ∀ (f n : Nat), n ≤ f → n ≤ t.nodes.length → st n ≠ []
  | 0, n, hf, _ => by
    obtain rfl : n = 0 := by omega
    exact hne
  | f + 1, n, hf, hn => by
    by_cases h0 : n = 0
    · subst h0; exact hne
    · have := Tr.up_lt h h0 hn
      exact doAll_ne (hs n h0 hn) (Tr.sem_ne h hs hne f _ (by omega) (by omega))
/-- To leads from where it is to what the lines were at any node -/
theorem Tr.path_leads {t : Tr} {st : Nat → List (List Int)} (h : t.Ok) (hs : t.Sem st) (hne : st 0 ≠ []) (hh : st t.here ≠ []) (n : Nat) (hn : n ≤ t.nodes.length) : doAll (st t.here) (t.path n) = some (st n) := by
  obtain ⟨q1, q2, q3⟩ := Tr.rise_leads h hs hne n hn t.here t.here (Nat.le_refl _) h.2.1 hh
  unfold Tr.path
  rw [doAll_append, q1]
  exact Tr.down_leads h hs _ n n (Nat.le_refl _) hn q2
end Go.Proofs.Ytalhiedbhcklgaa.U
