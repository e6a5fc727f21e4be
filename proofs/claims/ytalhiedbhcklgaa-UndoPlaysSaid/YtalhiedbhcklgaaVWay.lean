/-
  The way from node to node, as plain mathematics: both ways up are left by the greater number; nodes stand on nodes of lower numbers.
-/
import Derived.Test.YtalhiedbhcklgaaVFits
namespace Go.Proofs.Ytalhiedbhcklgaa.U
set_option linter.unusedVariables false
set_option linter.unusedSimpArgs false

theorem Tr.over_fuel {t : Tr} (h : t.Ok) (u : Nat) : ∀ (f n : Nat), n ≤ f → n ≤ t.nodes.length → t.over u f n = t.over u n n
  | 0, n, hf, hn => by obtain rfl : n = 0 := (by omega); rfl
  | f + 1, n, hf, hn => by
    cases n with
    | zero =>
      simp only [Tr.over]
      by_cases h0 : 0 = u
      · simp [h0]
      · simp [h0]
    | succ n =>
      have hl := Tr.up_lt h (n := n + 1) (by omega) hn
      unfold Tr.over
      rw [Tr.over_fuel h u f _ (by omega) (by omega), Tr.over_fuel h u n _ (by omega) (by omega)]
theorem Tr.over_step {t : Tr} (h : t.Ok) {u n : Nat} (h0 : n ≠ 0) (hn : n ≤ t.nodes.length) (hne : n ≠ u) : t.over u n n = t.over u (t.up n) (t.up n) := by
  obtain ⟨m, rfl⟩ : ∃ m, n = m + 1 := ⟨n - 1, by omega⟩
  have hl := Tr.up_lt h h0 hn
  rw [Tr.over, if_neg hne, if_neg h0, Tr.over_fuel h u m _ (by omega) (by omega)]
theorem Tr.over_le {t : Tr} (h : t.Ok) (u : Nat) : ∀ (f n : Nat), n ≤ f → n ≤ t.nodes.length → t.over u f n = true → u ≤ n
  | 0, n, hf, hn, ho => by simp [Tr.over] at ho; omega
  | f + 1, n, hf, hn, ho => by
    unfold Tr.over at ho
    by_cases h1 : n = u
    · omega
    · rw [if_neg h1] at ho
      by_cases h0 : n = 0
      · rw [if_pos h0] at ho; cases ho
      · rw [if_neg h0] at ho
        have hl := Tr.up_lt h h0 hn
        have := Tr.over_le h u f _ (by omega) (by omega) ho
        omega
theorem Tr.down_fuel {t : Tr} (h : t.Ok) (u : Nat) : ∀ (f n : Nat), n ≤ f → n ≤ t.nodes.length → t.over u n n = true → t.down u f n = t.down u n n
  | 0, n, hf, hn, _ => by obtain rfl : n = 0 := (by omega); rfl
  | f + 1, n, hf, hn, ho => by
    cases n with
    | zero =>
      have : 0 = u := by simpa [Tr.over] using ho
      simp [Tr.down, this]
    | succ n =>
      have hl := Tr.up_lt h (n := n + 1) (by omega) hn
      by_cases h1 : n + 1 = u
      · subst h1; simp [Tr.down]
      · rw [Tr.over_step h (by omega) hn h1] at ho
        unfold Tr.down
        rw [if_neg h1, if_neg h1, Tr.down_fuel h u f _ (by omega) (by omega) ho, Tr.down_fuel h u n _ (by omega) (by omega) ho]
theorem Tr.down_step {t : Tr} (h : t.Ok) {u n : Nat} (h0 : n ≠ 0) (hn : n ≤ t.nodes.length) (hne : n ≠ u) (ho : t.over u n n = true) : t.down u n n = t.down u (t.up n) (t.up n) ++ t.chs n := by
  obtain ⟨m, rfl⟩ : ∃ m, n = m + 1 := ⟨n - 1, by omega⟩
  have hl := Tr.up_lt h h0 hn
  rw [Tr.over_step h h0 hn hne] at ho
  rw [Tr.down, if_neg hne, Tr.down_fuel h u m _ (by omega) (by omega) ho]
theorem Tr.rise_fuel {t : Tr} (h : t.Ok) (n : Nat) (hn : n ≤ t.nodes.length) : ∀ (f u : Nat), u ≤ f → u ≤ t.nodes.length → t.rise n f u = t.rise n u u
  | 0, u, hf, hu => by obtain rfl : u = 0 := (by omega); rfl
  | f + 1, u, hf, hu => by
    cases u with
    | zero =>
      unfold Tr.rise
      rw [if_pos (Tr.over_zero h n n (Nat.le_refl _) hn)]
    | succ u =>
      have hl := Tr.up_lt h (n := u + 1) (by omega) hu
      unfold Tr.rise
      rw [Tr.rise_fuel h n hn f _ (by omega) (by omega), Tr.rise_fuel h n hn u _ (by omega) (by omega)]
theorem Tr.rise_step {t : Tr} (h : t.Ok) {u n : Nat} (hn : n ≤ t.nodes.length) (h0 : u ≠ 0) (hu : u ≤ t.nodes.length) (ho : t.over u n n = false) :
    t.rise n u u = (backC (t.chs u) ++ (t.rise n (t.up u) (t.up u)).1, (t.rise n (t.up u) (t.up u)).2) := by
  obtain ⟨m, rfl⟩ : ∃ m, u = m + 1 := ⟨u - 1, by omega⟩
  have hl := Tr.up_lt h h0 hu
  rw [Tr.rise, if_neg (by rw [ho]; simp), Tr.rise_fuel h n hn m _ (by omega) (by omega)]
theorem Tr.rise_over {t : Tr} {u n : Nat} (ho : t.over u n n = true) : t.rise n u u = ([], u) := by
  cases u with
  | zero => rfl
  | succ u => rw [Tr.rise, if_pos ho]
theorem Tr.rise_ends {t : Tr} (h : t.Ok) {n : Nat} (hn : n ≤ t.nodes.length) : ∀ (f u : Nat), u ≤ f → u ≤ t.nodes.length → t.over (t.rise n u u).2 n n = true ∧ (t.rise n u u).2 ≤ u
  | 0, u, hf, hu => by
    obtain rfl : u = 0 := by omega
    exact ⟨Tr.over_zero h n n (Nat.le_refl _) hn, Nat.le_refl _⟩
  | f + 1, u, hf, hu => by
    cases ho : t.over u n n with
    | true => rw [Tr.rise_over ho]; exact ⟨ho, Nat.le_refl _⟩
    | false =>
      have h0 : u ≠ 0 := by intro e; subst e; rw [Tr.over_zero h n n (Nat.le_refl _) hn] at ho; cases ho
      have hl := Tr.up_lt h h0 hu
      obtain ⟨q1, q2⟩ := Tr.rise_ends h hn f (t.up u) (by omega) (by omega)
      rw [Tr.rise_step h hn h0 hu ho]
      exact ⟨q1, by simp only; omega⟩
/-- the way from a to b -/
def Tr.way (t : Tr) (a b : Nat) : List Ch := (t.rise b a a).1 ++ t.down (t.rise b a a).2 b b
theorem Tr.path_way (t : Tr) (n : Nat) : t.path n = t.way t.here n := rfl
theorem Tr.way_self {t : Tr} (h : t.Ok) (a : Nat) : t.way a a = [] := by
  unfold Tr.way
  rw [Tr.rise_over (Tr.over_self t a a)]
  cases a <;> simp [Tr.down]
theorem Tr.way_down {t : Tr} (h : t.Ok) {a b : Nat} (hb : b ≤ t.nodes.length) (hab : a < b) : t.way a b = t.way a (t.up b) ++ t.chs b := by
  have h0 : b ≠ 0 := by omega
  have hl := Tr.up_lt h h0 hb
  have key : ∀ (f u : Nat), u ≤ f → u < b → u ≤ t.nodes.length → t.rise b u u = t.rise (t.up b) u u := by
    intro f
    induction f with
    | zero => intro u hf _ _; obtain rfl : u = 0 := (by omega); rfl
    | succ f ih =>
      intro u hf hub hu
      have hov := Tr.over_step h (u := u) h0 hb (by omega)
      cases ho : t.over u b b with
      | true => rw [Tr.rise_over ho, Tr.rise_over (by rw [← hov]; exact ho)]
      | false =>
        have hu0 : u ≠ 0 := by intro e; subst e; rw [Tr.over_zero h b b (Nat.le_refl _) hb] at ho; cases ho
        have hl2 := Tr.up_lt h hu0 hu
        rw [Tr.rise_step h hb hu0 hu ho, Tr.rise_step h (by omega) hu0 hu (by rw [← hov]; exact ho), ih _ (by omega) (by omega) (by omega)]
  obtain ⟨q1, q2⟩ := Tr.rise_ends h hb a a (Nat.le_refl _) (by omega)
  unfold Tr.way
  rw [Tr.down_step h h0 hb (by omega) q1, key a a (Nat.le_refl _) hab (by omega), List.append_assoc]
theorem Tr.way_up {t : Tr} (h : t.Ok) {a b : Nat} (ha : a ≤ t.nodes.length) (hab : b < a) : t.way a b = backC (t.chs a) ++ t.way (t.up a) b := by
  have h0 : a ≠ 0 := by omega
  have ho : t.over a b b = false := by
    cases e : t.over a b b with
    | false => rfl
    | true => have := Tr.over_le h a b b (Nat.le_refl _) (by omega) e; omega
  unfold Tr.way
  rw [Tr.rise_step h (by omega) h0 ha ho, List.append_assoc]
theorem Tr.way_undo {t : Tr} (h : t.Ok) {a : Nat} (h0 : a ≠ 0) (ha : a ≤ t.nodes.length) : t.way a (t.up a) = backC (t.chs a) := by
  rw [Tr.way_up h ha (Tr.up_lt h h0 ha), Tr.way_self h, List.append_nil]
theorem Tr.way_redo {t : Tr} (h : t.Ok) {b : Nat} (h0 : b ≠ 0) (hb : b ≤ t.nodes.length) : t.way (t.up b) b = t.chs b := by
  rw [Tr.way_down h hb (Tr.up_lt h h0 hb), Tr.way_self h, List.nil_append]
/-- going up, as the document goes -/
theorem Tr.way_over {t : Tr} {a b : Nat} (ho : t.over a b b = true) : t.way a b = t.down a b b := by
  unfold Tr.way
  rw [Tr.rise_over ho, List.nil_append]
theorem Tr.way_rise {t : Tr} (h : t.Ok) {a b : Nat} (hb : b ≤ t.nodes.length) (ha : a ≤ t.nodes.length) (ho : t.over a b b = false) : a ≠ 0 ∧ t.way a b = backC (t.chs a) ++ t.way (t.up a) b := by
  have h0 : a ≠ 0 := by intro e; subst e; rw [Tr.over_zero h b b (Nat.le_refl _) hb] at ho; cases ho
  refine ⟨h0, ?_⟩
  unfold Tr.way
  rw [Tr.rise_step h hb h0 ha ho, List.append_assoc]
/-- going down, as the document goes: k is the node over which b stands, and which stands on u -/
theorem Tr.over_trans {t : Tr} (h : t.Ok) {u k : Nat} (huk : t.over u k k = true) : ∀ (f b : Nat), b ≤ f → b ≤ t.nodes.length → t.over k b b = true → t.over u b b = true
  | 0, b, hf, hb, ho => by
    obtain rfl : b = 0 := by omega
    have := Tr.over_le h k 0 0 (Nat.le_refl _) hb ho
    obtain rfl : k = 0 := by omega
    exact huk
  | f + 1, b, hf, hb, ho => by
    by_cases h1 : b = k
    · subst h1; exact huk
    · have h0 : b ≠ 0 := by
        intro e; subst e
        have := Tr.over_le h k 0 0 (Nat.le_refl _) hb ho
        omega
      have hl := Tr.up_lt h h0 hb
      rw [Tr.over_step h h0 hb h1] at ho
      by_cases h2 : b = u
      · subst h2; exact Tr.over_self t b b
      · rw [Tr.over_step h h0 hb h2]
        exact Tr.over_trans h huk f _ (by omega) (by omega) ho
theorem Tr.down_split {t : Tr} (h : t.Ok) {u k : Nat} (hk0 : k ≠ 0) (hk : k ≤ t.nodes.length) (hup : t.up k = u) : ∀ (f b : Nat), b ≤ f → b ≤ t.nodes.length → t.over k b b = true → t.down u b b = t.chs k ++ t.down k b b
  | 0, b, hf, hb, ho => by
    obtain rfl : b = 0 := by omega
    have := Tr.over_le h k 0 0 (Nat.le_refl _) hb ho
    omega
  | f + 1, b, hf, hb, ho => by
    have hlk := Tr.up_lt h hk0 hk
    have huk : t.over u k k = true := by
      rw [Tr.over_step h hk0 hk (by omega), hup]
      exact Tr.over_self t u u
    have hub := Tr.over_trans h huk b b (Nat.le_refl _) hb ho
    have hkb := Tr.over_le h k b b (Nat.le_refl _) hb ho
    by_cases h1 : b = k
    · subst h1
      rw [Tr.down_step h hk0 hk (by omega) hub, hup]
      have e1 : t.down u u u = [] := by cases u <;> simp [Tr.down]
      have e2 : t.down b b b = [] := by cases b <;> simp [Tr.down]
      rw [e1, e2]
      simp
    · have h0 : b ≠ 0 := by omega
      have hl := Tr.up_lt h h0 hb
      have ho2 := ho
      rw [Tr.over_step h h0 hb h1] at ho2
      rw [Tr.down_step h h0 hb (by omega) hub, Tr.down_step h h0 hb h1 ho, Tr.down_split h hk0 hk hup f _ (by omega) (by omega) ho2, List.append_assoc]
/-- the last node of the first i that stands on k (0: none) -/
def Tr.lastAt (t : Tr) (k : Nat) : Nat → Nat
  | 0 => 0
  | i + 1 => if t.up (i + 1) = k then i + 1 else t.lastAt k i
theorem Tr.last_at (t : Tr) : ∀ i, t.last i = t.lastAt t.here i
  | 0 => rfl
  | i + 1 => by unfold Tr.last Tr.lastAt; rw [Tr.last_at t i]
theorem Tr.lastAt_le (t : Tr) (k : Nat) : ∀ i, t.lastAt k i ≤ i
  | 0 => Nat.le_refl _
  | i + 1 => by
    unfold Tr.lastAt
    split
    · exact Nat.le_refl _
    · have := Tr.lastAt_le t k i; omega
def Tr.lst (t : Tr) (k : Nat) : Nat := t.lastAt k t.nodes.length
theorem Tr.lastAt_app (t : Tr) (p : Nat × List Ch) (h b : _) (g : List Ch) (k : Nat) : ∀ i, i ≤ t.nodes.length → Tr.lastAt ⟨t.nodes ++ [p], h, b, g⟩ k i = t.lastAt k i
  | 0, _ => rfl
  | i + 1, hi => by
    unfold Tr.lastAt
    rw [(Tr.up_append t p (n := i + 1) (by omega) hi h b g).1, Tr.lastAt_app t p h b g k i (by omega)]
theorem Tr.lst_app (t : Tr) (p : Nat × List Ch) (h b : _) (g : List Ch) (k : Nat) : Tr.lst ⟨t.nodes ++ [p], h, b, g⟩ k = if p.1 = k then t.nodes.length + 1 else t.lst k := by
  unfold Tr.lst
  simp only [List.length_append, List.length_cons, List.length_nil]
  rw [Tr.lastAt, (Tr.up_last t p h b g).1, Tr.lastAt_app t p h b g k _ (Nat.le_refl _)]
theorem Tr.lst_top {t : Tr} (h : t.Ok) {k : Nat} (hk : t.nodes.length ≤ k) : t.lst k = 0 := by
  have key : ∀ i, i ≤ t.nodes.length → t.lastAt k i = 0 := by
    intro i
    induction i with
    | zero => intro _; rfl
    | succ i ih =>
      intro hi
      have hl := Tr.up_lt h (n := i + 1) (by omega) hi
      unfold Tr.lastAt
      rw [if_neg (by omega), ih (by omega)]
  exact key _ (Nat.le_refl _)
theorem Tr.lst_up {t : Tr} {k : Nat} (h0 : t.lst k ≠ 0) : t.up (t.lst k) = k := by
  have key : ∀ i, t.lastAt k i ≠ 0 → t.up (t.lastAt k i) = k := by
    intro i
    induction i with
    | zero => intro h; exact absurd rfl h
    | succ i ih =>
      intro h
      unfold Tr.lastAt at h ⊢
      by_cases h1 : t.up (i + 1) = k
      · rw [if_pos h1]; exact h1
      · rw [if_neg h1] at h ⊢; exact ih h
  exact key _ h0
theorem Tr.redo_lst (t : Tr) : t.redo = if t.end_.lst t.end_.here = 0 then (t.end_, none) else ({ t.end_ with here := t.end_.lst t.end_.here }, some (t.end_.chs (t.end_.lst t.end_.here))) := by
  unfold Tr.redo Tr.lst
  rw [Tr.last_at]
end Go.Proofs.Ytalhiedbhcklgaa.U
