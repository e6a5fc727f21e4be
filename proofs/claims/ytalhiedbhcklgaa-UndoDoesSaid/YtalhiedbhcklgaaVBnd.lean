/-
  Changes done one behind the other, all of them of bounded size: where a tree leads, with the bounds.
-/
import Derived.Test.YtalhiedbhcklgaaVMem
import Derived.Test.YtalhiedbhcklgaaVFits
namespace Go.Proofs.Ytalhiedbhcklgaa.U
set_option linter.unusedVariables false
set_option linter.unusedSimpArgs false

def siz (L : List (List Int)) : Nat := sizeN (lens L)
def capM : Nat := 131072
def wfL (L : List (List Int)) : Prop := ∀ x ∈ L, ∀ y ∈ x, (Lit.int .i32 y).wf = true
def LMb (L : List (List Int)) : Prop := siz L ≤ capM ∧ wfL L
def fitM (l : List (List Int)) (c : Ch) : Prop := i64b c.pos ∧ LMb c.old ∧ LMb c.now ∧ LMb l ∧ LMb (doC l c).1
theorem fitM.ok {l : List (List Int)} {c : Ch} (h : fitM l c) : OkC c := by
  obtain ⟨a, b, d, _⟩ := h
  have b1 := b.1
  have d1 := d.1
  unfold siz capM at b1 d1
  exact ⟨a, b.2, d.2, by omega, by omega⟩
def DoM : List (List Int) → List Ch → List (List Int) → Prop
  | l, [], r => l = r
  | l, c :: cs, r => (doC l c).2 = 0 ∧ fitM l c ∧ DoM (doC l c).1 cs r
theorem DoM.append {l x r : List (List Int)} {a b : List Ch} (h : DoM l a x) (k : DoM x b r) : DoM l (a ++ b) r := by
  induction a generalizing l with
  | nil => cases h; exact k
  | cons c cs ih => exact ⟨h.1, h.2.1, ih h.2.2⟩
theorem DoM.one {l r : List (List Int)} {c : Ch} (h : doC l c = (r, 0)) (hf : fitM l c) : DoM l [c] r := ⟨by rw [h], hf, by rw [h]; rfl⟩
theorem DoM.ne {l r : List (List Int)} {cs : List Ch} (h : DoM l cs r) (hl : l ≠ []) : r ≠ [] := by
  induction cs generalizing l with
  | nil => cases h; exact hl
  | cons c cs ih =>
    obtain ⟨h1, h2, h3⟩ := h
    obtain ⟨k, _, _, _, _, hne⟩ := doC_ok (l := l) (c := c) (r := (doC l c).1) (by rw [← h1])
    exact ih h3 hne
theorem DoM.all {l r : List (List Int)} {cs : List Ch} (h : DoM l cs r) : ∀ x ∈ cs, OkC x := by
  induction cs generalizing l with
  | nil => intro x hx; cases hx
  | cons c cs ih =>
    intro x hx
    rcases List.mem_cons.1 hx with rfl | hx
    · exact h.2.1.ok
    · exact ih h.2.2 x hx
theorem DoM.back {l r : List (List Int)} {cs : List Ch} (h : DoM l cs r) (hl : l ≠ []) : DoM r (backC cs) l := by
  induction cs generalizing l with
  | nil => cases h; exact rfl
  | cons c cs ih =>
    obtain ⟨h1, ⟨f0, f1, f2, f3, f4⟩, h3⟩ := h
    have h2 : doC l c = ((doC l c).1, 0) := by rw [← h1]
    obtain ⟨k, _, _, _, _, hne⟩ := doC_ok h2
    have ht := do_turned h2 hl
    rw [backC_cons]
    exact (ih h3 hne).append (DoM.one ht ⟨f0, f2, f1, f4, by rw [ht]; exact f3⟩)
theorem DoM.lm {l r : List (List Int)} {cs : List Ch} (h : DoM l cs r) (hl : LMb l) : LMb r := by
  induction cs generalizing l with
  | nil => cases h; exact hl
  | cons c cs ih => exact ih h.2.2 h.2.1.2.2.2.2

def Tr.SemM (t : Tr) (st : Nat → List (List Int)) : Prop := ∀ n, n ≠ 0 → n ≤ t.nodes.length → DoM (st (t.up n)) (t.chs n) (st n)
theorem Tr.semM_ne {t : Tr} {st : Nat → List (List Int)} (h : t.Ok) (hs : t.SemM st) (hne : st 0 ≠ []) : ∀ (f n : Nat), n ≤ f → n ≤ t.nodes.length → st n ≠ []
  | 0, n, hf, _ => by
    obtain rfl : n = 0 := by omega
    exact hne
  | f + 1, n, hf, hn => by
    by_cases h0 : n = 0
    · subst h0; exact hne
    · have := Tr.up_lt h h0 hn
      exact (hs n h0 hn).ne (Tr.semM_ne h hs hne f _ (by omega) (by omega))
theorem Tr.downM {t : Tr} {st : Nat → List (List Int)} (h : t.Ok) (hs : t.SemM st) (u : Nat) : ∀ (f n : Nat), n ≤ f → n ≤ t.nodes.length → t.over u f n = true → DoM (st u) (t.down u f n) (st n)
  | 0, n, hf, hn, ho => by
    simp [Tr.over] at ho
    subst ho
    exact rfl
  | f + 1, n, hf, hn, ho => by
    unfold Tr.over at ho
    unfold Tr.down
    by_cases h0 : n = u
    · subst h0; rw [if_pos rfl]; exact rfl
    · rw [if_neg h0] at ho ⊢
      by_cases h1 : n = 0
      · rw [if_pos h1] at ho; cases ho
      · rw [if_neg h1] at ho
        have hu := Tr.up_lt h h1 hn
        exact (Tr.downM h hs u f _ (by omega) (by omega) ho).append (hs n h1 hn)
theorem Tr.riseM {t : Tr} {st : Nat → List (List Int)} (h : t.Ok) (hs : t.SemM st) (hne : st 0 ≠ []) (n : Nat) (hn : n ≤ t.nodes.length) : ∀ (f u : Nat), u ≤ f → u ≤ t.nodes.length →
    DoM (st u) (t.rise n f u).1 (st (t.rise n f u).2) ∧ t.over (t.rise n f u).2 n n = true ∧ (t.rise n f u).2 ≤ u
  | 0, u, hf, _ => by
    obtain rfl : u = 0 := by omega
    exact ⟨rfl, Tr.over_zero h n n (Nat.le_refl _) hn, Nat.le_refl _⟩
  | f + 1, u, hf, hu => by
    unfold Tr.rise
    by_cases ho : t.over u n n = true
    · rw [if_pos ho]; exact ⟨rfl, ho, Nat.le_refl _⟩
    · rw [if_neg ho]
      have hu0 : u ≠ 0 := by
        intro e
        subst e
        exact ho (Tr.over_zero h n n (Nat.le_refl _) hn)
      have hlt := Tr.up_lt h hu0 hu
      have hstep := hs u hu0 hu
      have hup : st (t.up u) ≠ [] := Tr.semM_ne h hs hne (t.up u) (t.up u) (Nat.le_refl _) (by omega)
      obtain ⟨q1, q2, q3⟩ := Tr.riseM h hs hne n hn f (t.up u) (by omega) (by omega)
      refine ⟨?_, q2, by simp only; omega⟩
      simp only
      exact (hstep.back hup).append q1
/-- from any node to any other one -/
theorem Tr.wayM {t : Tr} {st : Nat → List (List Int)} (h : t.Ok) (hs : t.SemM st) (hne : st 0 ≠ []) (a n : Nat) (ha : a ≤ t.nodes.length) (hn : n ≤ t.nodes.length) : DoM (st a) (t.way a n) (st n) := by
  obtain ⟨q1, q2, q3⟩ := Tr.riseM h hs hne n hn a a (Nat.le_refl _) ha
  unfold Tr.way
  exact q1.append (Tr.downM h hs _ n n (Nat.le_refl _) hn q2)
theorem Tr.semM_app {t : Tr} {st : Nat → List (List Int)} {x : List (List Int)} {g : List Ch} (h : t.Ok) (hs : t.SemM st) (hx : DoM (st t.here) g x) (b : Bool) (gg : List Ch) (hr : Nat) :
    Tr.SemM ⟨t.nodes ++ [(t.here, g)], hr, b, gg⟩ (fun n => if n = t.nodes.length + 1 then x else st n) := by
  intro n h0 hn
  simp only [List.length_append, List.length_cons, List.length_nil] at hn
  by_cases hl : n = t.nodes.length + 1
  · subst hl
    obtain ⟨e1, e2⟩ := Tr.up_last t (t.here, g) hr b gg
    rw [e1, e2]
    show DoM (if t.here = t.nodes.length + 1 then x else st t.here) g (if t.nodes.length + 1 = t.nodes.length + 1 then x else st (t.nodes.length + 1))
    rw [if_pos rfl, if_neg (by have := h.2.1; omega)]
    exact hx
  · obtain ⟨e1, e2⟩ := Tr.up_append t (t.here, g) h0 (by omega : n ≤ t.nodes.length) hr b gg
    rw [e1, e2]
    have hu := Tr.up_lt h h0 (by omega)
    show DoM (if t.up n = t.nodes.length + 1 then x else st (t.up n)) (t.chs n) (if n = t.nodes.length + 1 then x else st n)
    rw [if_neg hl, if_neg (by omega)]
    exact hs n h0 (by omega)
theorem Tr.chain_app {t : Tr} (hc : t.Chain) (hh : t.here = t.nodes.length) (g : List Ch) (b : Bool) (gg : List Ch) (hr : Nat) : Tr.Chain ⟨t.nodes ++ [(t.here, g)], hr, b, gg⟩ := by
  intro n h0 hn
  simp only [List.length_append, List.length_cons, List.length_nil] at hn
  by_cases hl : n = t.nodes.length + 1
  · subst hl
    rw [(Tr.up_last t (t.here, g) hr b gg).1]
    simp only
    omega
  · rw [(Tr.up_append t (t.here, g) h0 (by omega : n ≤ t.nodes.length) hr b gg).1]
    exact hc n h0 (by omega)
theorem lm_nil : LMb [] := ⟨by unfold siz capM; simp [sizeN, lens], fun x hx => by cases hx⟩
theorem siz_append (a b : List (List Int)) : siz (a ++ b) = siz a + siz b := by unfold siz; rw [lens_append, sizeN_append]
theorem siz_small {L : List (List Int)} (h : smallL L = true) : siz L ≤ 3001 := by
  unfold smallL at h
  rw [Bool.and_eq_true, decide_eq_true_eq, decide_eq_true_eq] at h
  by_cases h0 : L = []
  · subst h0; unfold siz; simp [sizeN, lens]
  · have := joinL_len h0
    unfold siz
    omega
end Go.Proofs.Ytalhiedbhcklgaa.U
