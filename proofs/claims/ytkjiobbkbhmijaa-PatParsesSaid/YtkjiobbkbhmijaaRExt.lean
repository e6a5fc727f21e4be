/-
  A pattern with a choice behind it; groups counted on; how many groups a part has; counts that are bounded. No program here.
-/
import Derived.Test.YtkjiobbkbhmijaaRPure
namespace Go.Proofs.Ytkjiobbkbhmijaa.U
set_option linter.unusedVariables false
set_option linter.unusedSimpArgs false

def tl (b : List Int) : List Int := 92 :: 124 :: b
theorem pre1_ext (c : Int) (hc : c ≠ 92) (l b : List Int) : pre [c] (l ++ tl b) = pre [c] l := by
  cases l <;> simp [pre, tl, List.isPrefixOf, hc]
theorem pre2_ext (d : Int) (h1 : d ≠ 92) (h2 : d ≠ 124) (l b : List Int) : pre [92, d] (l ++ tl b) = pre [92, d] l := by
  match l with
  | [] => simp [pre, tl, List.isPrefixOf, h1, h2]
  | [x] => simp [pre, tl, List.isPrefixOf, h1, h2]
  | x :: y :: l => simp [pre, tl, List.isPrefixOf, h1, h2]
theorem preC_ext (l b : List Int) (hl : l ≠ []) : pre [92, 124] (l ++ tl b) = pre [92, 124] l := by
  match l, hl with
  | [x], _ => simp [pre, tl, List.isPrefixOf]
  | x :: y :: l, _ => simp [pre, tl, List.isPrefixOf]
theorem ended_ext (l b : List Int) : ended (l ++ tl b) = ended l := by
  unfold ended
  rw [pre2_ext 41 (by decide) (by decide)]
  by_cases hl : l = []
  · subst hl; simp [tl, pre, List.isPrefixOf]
  · rw [preC_ext l b hl]
    cases l with
    | nil => exact absurd rfl hl
    | cons x l => simp
theorem drop_ext {s l : List Int} (h : pre s l = true) (b : List Int) (k : Nat) (hk : k = s.length) : (l ++ tl b).drop k = l.drop k ++ tl b := by
  have := pre_len h
  rw [List.drop_append_of_le_length (by omega)]
theorem num_ext (b : List Int) : ∀ (l : List Int) (a : Int), num a (l ++ tl b) = ((num a l).1, (num a l).2 ++ tl b)
  | [], a => by simp [num, tl, dig]
  | c :: l, a => by
    rw [List.cons_append, num, num]
    split
    · exact num_ext b l _
    · rfl
theorem hasD_ext (l b : List Int) : hasD (l ++ tl b) = hasD l := by
  cases l <;> simp [hasD, tl, dig]
theorem second_ext (q : Int × List Int) (b : List Int) : second (q.1, q.2 ++ tl b) = ((second q).1, (second q).2 ++ tl b) := by
  unfold second
  rw [pre1_ext 44 (by decide)]
  simp only
  split
  · rename_i h
    rw [drop_ext h b 1 rfl, hasD_ext, num_ext]
    split <;> rfl
  · rfl
theorem counts_ext {l l' : List Int} {lo hi : Int} (h : counts l = .ok (lo, hi, l')) (b : List Int) : counts (l ++ tl b) = .ok (lo, hi, l' ++ tl b) := by
  unfold counts at h ⊢
  rw [hasD_ext, num_ext, second_ext]
  split at h
  · cases h
  rename_i h1
  split at h
  · cases h
  rename_i h2
  split at h
  · rename_i h3
    simp only [Except.ok.injEq, Prod.mk.injEq] at h
    obtain ⟨rfl, rfl, rfl⟩ := h
    rw [if_neg h1]
    simp only
    rw [if_neg h2, pre2_ext 125 (by decide) (by decide), if_pos h3, drop_ext h3 b 2 rfl]
  · cases h
theorem reps_ext (b : List Int) : ∀ (f f' : Nat) (x : Re) (l : List Int) {y : Re} {l' : List Int}, reps f x l = .ok (y, l') → f ≤ f' → reps f' x (l ++ tl b) = .ok (y, l' ++ tl b)
  | 0, f', x, l, y, l', h, hf => by cases h
  | f + 1, 0, x, l, y, l', h, hf => by omega
  | f + 1, f' + 1, x, l, y, l', h, hf => by
    unfold reps at h ⊢
    rw [pre1_ext 42 (by decide), pre2_ext 123 (by decide) (by decide)]
    split at h
    · rename_i h1
      rw [if_pos h1, drop_ext h1 b 1 rfl]
      exact reps_ext b f f' _ _ h (by omega)
    rename_i h1
    rw [if_neg h1]
    split at h
    · rename_i h2
      rw [if_pos h2, drop_ext h2 b 2 rfl]
      split at h
      · cases h
      · rename_i lo hi l1 hc
        rw [counts_ext hc b]
        exact reps_ext b f f' _ _ h (by omega)
    · rename_i h2
      rw [if_neg h2]
      simp only [Except.ok.injEq, Prod.mk.injEq] at h ⊢
      exact ⟨h.1, by rw [h.2]⟩
theorem items_nil : ∀ (f : Nat) (acc : List (Int × Int)), items f acc [] = .error 10
  | 0, acc => rfl
  | f + 1, acc => by
    unfold items
    simp [pre, List.isPrefixOf]
theorem items_dash : ∀ (f : Nat) (acc : List (Int × Int)), items f acc [45] = .error 10
  | 0, acc => rfl
  | f + 1, acc => by
    unfold items
    simp [pre, List.isPrefixOf, isRange, items_nil]
theorem items_ext (b : List Int) : ∀ (f f' : Nat) (acc : List (Int × Int)) (l : List Int) {st : List (Int × Int)} {l' : List Int}, items f acc l = .ok (st, l') → f ≤ f' → items f' acc (l ++ tl b) = .ok (st, l' ++ tl b)
  | 0, f', acc, l, st, l', h, hf => by cases h
  | f + 1, 0, acc, l, st, l', h, hf => by omega
  | f + 1, f' + 1, acc, l, st, l', h, hf => by
    unfold items at h ⊢
    rw [pre1_ext 93 (by decide)]
    split at h
    · rename_i h1
      rw [if_pos h1]
      simp only [Bool.and_eq_true] at h1
      rw [drop_ext h1.2 b 1 rfl]
      simp only [Except.ok.injEq, Prod.mk.injEq] at h ⊢
      exact ⟨h.1, by rw [h.2]⟩
    rename_i h1
    rw [if_neg h1]
    cases l with
    | nil => cases h
    | cons c l1 =>
      simp only [List.cons_append] at h ⊢
      match l1, h with
      | [], h =>
        rw [show isRange [] = false from rfl] at h
        simp only [Bool.false_eq_true, if_false, items_nil] at h
        cases h
      | [x], h =>
        rw [show isRange [x] = false from rfl] at h
        simp only [Bool.false_eq_true, if_false] at h
        have hx : x ≠ 45 := by
          rintro rfl
          rw [items_dash] at h
          cases h
        have hr : isRange ([x] ++ tl b) = false := by simp [isRange, hx]
        rw [hr]
        exact items_ext b f f' _ _ h (by omega)
      | x :: y :: l2, h =>
        have hr : isRange (x :: y :: l2 ++ tl b) = isRange (x :: y :: l2) := by simp [isRange]
        rw [hr]
        split at h
        · rename_i h2
          rw [if_pos h2]
          exact items_ext b f f' _ _ h (by omega)
        · rename_i h2
          rw [if_neg h2]
          exact items_ext b f f' _ _ h (by omega)
theorem setB_ext {nt : Bool} {l l' : List Int} {x : Re} (h : setB nt l = .ok (x, l')) (b : List Int) : setB nt (l ++ tl b) = .ok (x, l' ++ tl b) := by
  unfold setB at h ⊢
  split at h
  · cases h
  · rename_i st l1 hi
    rw [items_ext b _ ((l ++ tl b).length + 1) _ _ hi (by simp)]
    simp only
    split at h
    · cases h
    · rename_i hd
      rw [if_neg hd]
      simp only [Except.ok.injEq, Prod.mk.injEq] at h ⊢
      exact ⟨h.1, by rw [h.2]⟩
theorem setR_ext {l l' : List Int} {x : Re} (h : setR l = .ok (x, l')) (b : List Int) : setR (l ++ tl b) = .ok (x, l' ++ tl b) := by
  unfold setR at h ⊢
  rw [pre1_ext 94 (by decide)]
  split at h
  · rename_i h1
    rw [if_pos h1, drop_ext h1 b 1 rfl]
    exact setB_ext h b
  · rename_i h1
    rw [if_neg h1]
    exact setB_ext h b

def RecE (rec : Rec) : Prop := ∀ b l n o x l' n', rec l n o = .ok (x, l', n') → pre [92, 41] l' = true → rec (l ++ tl b) n o = .ok (x, l' ++ tl b, n')
theorem grpR_ext {rec : Rec} (hr : RecE rec) {l l' : List Int} {n n' o : Nat} {x : Re} (h : grpR rec l n o = .ok (x, l', n')) (b : List Int) : grpR rec (l ++ tl b) n o = .ok (x, l' ++ tl b, n') := by
  unfold grpR at h ⊢
  split at h
  · cases h
  rename_i ho
  rw [if_neg ho]
  split at h
  · cases h
  · rename_i x1 l1 n1 h1
    split at h
    · rename_i h2
      rw [hr b _ _ _ _ _ _ h1 h2]
      simp only
      rw [pre2_ext 41 (by decide) (by decide), if_pos h2, drop_ext h2 b 2 rfl]
      simp only [Except.ok.injEq, Prod.mk.injEq] at h ⊢
      exact ⟨h.1, by rw [h.2.1], h.2.2⟩
    · cases h
theorem escR_ext {rec : Rec} (hr : RecE rec) {l l' : List Int} {n n' o : Nat} {x : Re} (h : escR rec l n o = .ok (x, l', n')) (b : List Int) : escR rec (l ++ tl b) n o = .ok (x, l' ++ tl b, n') := by
  cases l with
  | nil => cases h
  | cons c l =>
    rw [List.cons_append]
    unfold escR at h ⊢
    simp only at h ⊢
    split at h
    · rename_i h1
      rw [if_pos h1]
      exact grpR_ext hr h b
    rename_i h1
    rw [if_neg h1]
    repeat' (split at h)
    all_goals first
      | (cases h; done)
      | (cases h; simp [*])
theorem setN_ext {l l' : List Int} {n n' : Nat} {x : Re} (h : setN l n = .ok (x, l', n')) (b : List Int) : setN (l ++ tl b) n = .ok (x, l' ++ tl b, n') := by
  unfold setN at h ⊢
  split at h
  · cases h
  · rename_i x1 l1 h1
    rw [setR_ext h1 b]
    simp only [Except.ok.injEq, Prod.mk.injEq] at h ⊢
    exact ⟨h.1, by rw [h.2.1], h.2.2⟩
theorem atomR_ext {rec : Rec} (hr : RecE rec) {l l' : List Int} {n n' o : Nat} {x : Re} (h : atomR rec l n o = .ok (x, l', n')) (b : List Int) : atomR rec (l ++ tl b) n o = .ok (x, l' ++ tl b, n') := by
  cases l with
  | nil => cases h
  | cons c l =>
    rw [List.cons_append]
    unfold atomR at h ⊢
    simp only at h ⊢
    rw [ended_ext]
    split at h
    · rename_i h1
      rw [if_pos h1]
      simp only [Except.ok.injEq, Prod.mk.injEq] at h ⊢
      exact ⟨h.1, by rw [h.2.1], h.2.2⟩
    rename_i h1
    rw [if_neg h1]
    split at h
    · rename_i h2
      rw [if_pos h2]
      exact setN_ext h b
    rename_i h2
    rw [if_neg h2]
    split at h
    · rename_i h3
      rw [if_pos h3]
      simp only [Except.ok.injEq, Prod.mk.injEq] at h ⊢
      exact ⟨h.1, by rw [h.2.1], h.2.2⟩
    rename_i h3
    rw [if_neg h3]
    split at h
    · rename_i h4
      rw [if_pos h4]
      exact escR_ext hr h b
    rename_i h4
    rw [if_neg h4]
    simp only [Except.ok.injEq, Prod.mk.injEq] at h ⊢
    exact ⟨h.1, by rw [h.2.1], h.2.2⟩
theorem pcsR_ext {rec : Rec} (hr : RecE rec) (b : List Int) (o : Nat) : ∀ (f f' : Nat) (acc : List Re) (l : List Int) (n : Nat) {xs : List Re} {l' : List Int} {n' : Nat}, pcsR rec o f acc l n = .ok (xs, l', n') → f ≤ f' → pcsR rec o f' acc (l ++ tl b) n = .ok (xs, l' ++ tl b, n')
  | 0, f', acc, l, n, xs, l', n', h, hf => by cases h
  | f + 1, 0, acc, l, n, xs, l', n', h, hf => by omega
  | f + 1, f' + 1, acc, l, n, xs, l', n', h, hf => by
    unfold pcsR at h ⊢
    rw [ended_ext]
    split at h
    · rename_i h1
      rw [if_pos h1]
      simp only [Except.ok.injEq, Prod.mk.injEq] at h ⊢
      exact ⟨h.1, by rw [h.2.1], h.2.2⟩
    rename_i h1
    rw [if_neg h1]
    split at h
    · cases h
    · rename_i x l1 n1 h2
      rw [atomR_ext hr h2 b]
      simp only
      split at h
      · cases h
      · rename_i y l2 h3
        rw [reps_ext b _ ((l1 ++ tl b).length + 1) _ _ h3 (by simp)]
        exact pcsR_ext hr b o f f' _ _ _ h (by omega)
theorem pcs0_ext {rec : Rec} (hr : RecE rec) {l l' : List Int} {n n' o : Nat} {xs : List Re} (h : pcs0 rec l n o = .ok (xs, l', n')) (b : List Int) : pcs0 rec (l ++ tl b) n o = .ok (xs, l' ++ tl b, n') := by
  unfold pcs0 at h ⊢
  rw [pre1_ext 94 (by decide)]
  split at h
  · rename_i h1
    rw [if_pos h1, drop_ext h1 b 1 rfl]
    exact pcsR_ext hr b o _ _ _ _ _ h (by simp)
  · rename_i h1
    rw [if_neg h1]
    exact pcsR_ext hr b o _ _ _ _ _ h (by simp)
theorem altR_ext {rec : Rec} (hr : RecE rec) {l l' : List Int} {n n' o : Nat} {x : Re} (h : altR rec l n o = .ok (x, l', n')) (b : List Int) : altR rec (l ++ tl b) n o = .ok (x, l' ++ tl b, n') := by
  unfold altR at h ⊢
  split at h
  · cases h
  · rename_i xs l1 n1 h1
    rw [pcs0_ext hr h1 b]
    simp only [Except.ok.injEq, Prod.mk.injEq] at h ⊢
    exact ⟨h.1, by rw [h.2.1], h.2.2⟩
theorem altsL_ext {rec : Rec} (hr : RecE rec) (b : List Int) (o : Nat) : ∀ (f f' : Nat) (acc : List Re) (l : List Int) (n : Nat) {xs : List Re} {l' : List Int} {n' : Nat}, altsL rec o f acc l n = .ok (xs, l', n') → pre [92, 41] l' = true → f ≤ f' → altsL rec o f' acc (l ++ tl b) n = .ok (xs, l' ++ tl b, n')
  | 0, f', acc, l, n, xs, l', n', h, hp, hf => by cases h
  | f + 1, 0, acc, l, n, xs, l', n', h, hp, hf => by omega
  | f + 1, f' + 1, acc, l, n, xs, l', n', h, hp, hf => by
    unfold altsL at h ⊢
    split at h
    · rename_i h1
      rw [preC_ext l b (by rintro rfl; cases h1), if_pos h1, drop_ext h1 b 2 rfl]
      split at h
      · cases h
      · rename_i x l1 n1 h2
        rw [altR_ext hr h2 b]
        exact altsL_ext hr b o f f' _ _ _ h hp (by omega)
    · rename_i h1
      simp only [Except.ok.injEq, Prod.mk.injEq] at h
      obtain ⟨rfl, rfl, rfl⟩ := h
      rw [preC_ext l b (by rintro rfl; cases hp), if_neg h1]
theorem altsR_ext {rec : Rec} (hr : RecE rec) : RecE (altsR rec) := by
  intro b l n o x l' n' h hp
  unfold altsR alts0 at h ⊢
  split at h
  · cases h
  · rename_i xs l1 n1 h1
    simp only [Except.ok.injEq, Prod.mk.injEq] at h
    obtain ⟨rfl, rfl, rfl⟩ := h
    split at h1
    · cases h1
    · rename_i x2 l2 n2 h2
      rw [altR_ext hr h2 b]
      simp only
      rw [altsL_ext hr b o _ _ _ _ _ h1 hp (by simp)]
theorem alts_ext : ∀ d, RecE (alts d)
  | 0 => fun b l n o x l' n' h => by cases h
  | d + 1 => altsR_ext (alts_ext d)

-- groups counted on
mutual
def Re.sh (m : Nat) : Re → Re
  | .mk k r st nt lo hi ps => .mk k r st nt (if k = 11 then lo + (m : Int) else lo) hi (shs m ps)
def shs (m : Nat) : List Re → List Re
  | [] => []
  | x :: xs => x.sh m :: shs m xs
end
mutual
theorem Re.sh_sz (m : Nat) : ∀ x : Re, (x.sh m).sz = x.sz
  | .mk k r st nt lo hi ps => by
    rw [Re.sh, Re.sz, Re.sz, shs_sz m ps]
    by_cases hk : k = 10
    · subst hk; rfl
    · rw [if_neg hk, if_neg hk]
theorem shs_sz (m : Nat) : ∀ xs : List Re, szs (shs m xs) = szs xs
  | [] => rfl
  | x :: xs => by rw [shs, szs, szs, Re.sh_sz m x, shs_sz m xs]
end
theorem shs_append (m : Nat) : ∀ (xs ys : List Re), shs m (xs ++ ys) = shs m xs ++ shs m ys
  | [], ys => rfl
  | x :: xs, ys => by rw [List.cons_append, shs, shs, shs_append m xs ys]; rfl
theorem shs_len (m : Nat) : ∀ (xs : List Re), (shs m xs).length = xs.length
  | [] => rfl
  | x :: xs => by rw [shs, List.length_cons, List.length_cons, shs_len m xs]
theorem joinR_sh (m : Nat) (k : Int) (hk : k ≠ 11) (xs : List Re) : (joinR k xs).sh m = joinR k (shs m xs) := by
  match xs with
  | [] => simp [joinR, Re.one, Re.sh, shs]
  | [x] => rfl
  | x :: y :: xs => simp [joinR, Re.sh, shs, hk]
theorem star_sh (m : Nat) (x : Re) (lo hi : Int) : (x.star lo hi).sh m = (x.sh m).star lo hi := by simp [Re.star, Re.sh, shs]
theorem grp_sh (m : Nat) (x : Re) (n : Nat) : (x.grp n).sh m = (x.sh m).grp (n + m) := by simp [Re.grp, Re.sh, shs]
theorem reps_sh (m : Nat) : ∀ (f : Nat) (x : Re) (l : List Int) {y : Re} {l' : List Int}, reps f x l = .ok (y, l') → reps f (x.sh m) l = .ok (y.sh m, l')
  | 0, x, l, y, l', h => by cases h
  | f + 1, x, l, y, l', h => by
    unfold reps at h ⊢
    split at h
    · rename_i h1
      rw [if_pos h1, ← star_sh]
      exact reps_sh m f _ _ h
    rename_i h1
    rw [if_neg h1]
    split at h
    · rename_i h2
      rw [if_pos h2]
      split at h
      · cases h
      · rename_i lo hi l1 hc
        rw [← star_sh]
        exact reps_sh m f _ _ h
    · rename_i h2
      rw [if_neg h2]
      simp only [Except.ok.injEq, Prod.mk.injEq] at h ⊢
      exact ⟨by rw [h.1], h.2⟩
def RecSh (rec : Rec) : Prop := ∀ m l n o x l' n', rec l n o = .ok (x, l', n') → rec l (n + m) o = .ok (x.sh m, l', n' + m)
theorem grpR_sh {rec : Rec} (hr : RecSh rec) {l l' : List Int} {n n' o : Nat} {x : Re} (m : Nat) (h : grpR rec l n o = .ok (x, l', n')) : grpR rec l (n + m) o = .ok (x.sh m, l', n' + m) := by
  unfold grpR at h ⊢
  split at h
  · cases h
  rename_i ho
  rw [if_neg ho]
  split at h
  · cases h
  · rename_i x1 l1 n1 h1
    have h3 := hr m _ _ _ _ _ _ h1
    rw [show n + 1 + m = n + m + 1 by omega] at h3
    rw [h3]
    simp only
    split at h
    · rename_i h2
      rw [if_pos h2]
      simp only [Except.ok.injEq, Prod.mk.injEq] at h ⊢
      obtain ⟨rfl, rfl, rfl⟩ := h
      exact ⟨by rw [grp_sh]; congr 1; omega, rfl, rfl⟩
    · cases h
theorem one_sh (m : Nat) (k : Int) (hk : k ≠ 11) : (Re.one k).sh m = Re.one k := by simp [Re.one, Re.sh, shs, hk]
theorem rune_sh (m : Nat) (c : Int) : (Re.rune c).sh m = Re.rune c := by simp [Re.rune, Re.sh, shs]
theorem escR_sh {rec : Rec} (hr : RecSh rec) {l l' : List Int} {n n' o : Nat} {x : Re} (m : Nat) (h : escR rec l n o = .ok (x, l', n')) : escR rec l (n + m) o = .ok (x.sh m, l', n' + m) := by
  cases l with
  | nil => cases h
  | cons c l =>
    unfold escR at h ⊢
    simp only at h ⊢
    split at h
    · rename_i h1
      rw [if_pos h1]
      exact grpR_sh hr m h
    rename_i h1
    rw [if_neg h1]
    repeat' (split at h)
    all_goals first
      | (cases h; done)
      | (cases h; simp [*, Re.one, Re.rune, Re.sh, shs])
theorem setB_kind {nt : Bool} {l l' : List Int} {x : Re} (h : setB nt l = .ok (x, l')) : ∃ st, x = .mk 3 0 st nt 0 0 [] := by
  unfold setB at h
  split at h
  · cases h
  · split at h
    · cases h
    · rename_i st l1 hi hd
      simp only [Except.ok.injEq, Prod.mk.injEq] at h
      exact ⟨st, h.1.symm⟩
theorem setR_kind {l l' : List Int} {x : Re} (h : setR l = .ok (x, l')) : ∃ st nt, x = .mk 3 0 st nt 0 0 [] := by
  unfold setR at h
  split at h
  · obtain ⟨st, h⟩ := setB_kind h; exact ⟨st, _, h⟩
  · obtain ⟨st, h⟩ := setB_kind h; exact ⟨st, _, h⟩
theorem setN_kind {l l' : List Int} {n n' : Nat} {x : Re} (h : setN l n = .ok (x, l', n')) : (∃ st nt, x = .mk 3 0 st nt 0 0 []) ∧ n' = n ∧ ∀ k, setN l k = .ok (x, l', k) := by
  unfold setN at h
  split at h
  · cases h
  · rename_i x1 l1 h1
    simp only [Except.ok.injEq, Prod.mk.injEq] at h
    obtain ⟨rfl, rfl, rfl⟩ := h
    exact ⟨setR_kind h1, rfl, fun k => by unfold setN; rw [h1]⟩
theorem atomR_sh {rec : Rec} (hr : RecSh rec) {l l' : List Int} {n n' o : Nat} {x : Re} (m : Nat) (h : atomR rec l n o = .ok (x, l', n')) : atomR rec l (n + m) o = .ok (x.sh m, l', n' + m) := by
  cases l with
  | nil => cases h
  | cons c l =>
    unfold atomR at h ⊢
    simp only at h ⊢
    split at h
    · rename_i h1
      rw [if_pos h1]
      simp only [Except.ok.injEq, Prod.mk.injEq] at h ⊢
      obtain ⟨rfl, rfl, rfl⟩ := h
      exact ⟨by rw [one_sh m _ (by decide)], rfl, rfl⟩
    rename_i h1
    rw [if_neg h1]
    split at h
    · rename_i h2
      rw [if_pos h2]
      obtain ⟨⟨st, nt, rfl⟩, rfl, h3⟩ := setN_kind h
      rw [h3]
      simp [Re.sh, shs]
    rename_i h2
    rw [if_neg h2]
    split at h
    · rename_i h3
      rw [if_pos h3]
      simp only [Except.ok.injEq, Prod.mk.injEq] at h ⊢
      obtain ⟨rfl, rfl, rfl⟩ := h
      exact ⟨by rw [one_sh m _ (by decide)], rfl, rfl⟩
    rename_i h3
    rw [if_neg h3]
    split at h
    · rename_i h4
      rw [if_pos h4]
      exact escR_sh hr m h
    rename_i h4
    rw [if_neg h4]
    simp only [Except.ok.injEq, Prod.mk.injEq] at h ⊢
    obtain ⟨rfl, rfl, rfl⟩ := h
    exact ⟨by rw [rune_sh], rfl, rfl⟩
theorem pcsR_sh {rec : Rec} (hr : RecSh rec) (m : Nat) (o : Nat) : ∀ (f : Nat) (acc : List Re) (l : List Int) (n : Nat) {xs : List Re} {l' : List Int} {n' : Nat}, pcsR rec o f acc l n = .ok (xs, l', n') → pcsR rec o f (shs m acc) l (n + m) = .ok (shs m xs, l', n' + m)
  | 0, acc, l, n, xs, l', n', h => by cases h
  | f + 1, acc, l, n, xs, l', n', h => by
    unfold pcsR at h ⊢
    split at h
    · rename_i h1
      rw [if_pos h1]
      simp only [Except.ok.injEq, Prod.mk.injEq] at h ⊢
      obtain ⟨rfl, rfl, rfl⟩ := h
      exact ⟨rfl, rfl, rfl⟩
    rename_i h1
    rw [if_neg h1]
    split at h
    · cases h
    · rename_i x l1 n1 h2
      rw [atomR_sh hr m h2]
      simp only
      split at h
      · cases h
      · rename_i y l2 h3
        rw [reps_sh m _ _ _ h3]
        simp only
        have := pcsR_sh hr m o f _ _ _ h
        rw [shs_append] at this
        exact this
theorem pcs0_sh {rec : Rec} (hr : RecSh rec) (m : Nat) {l l' : List Int} {n n' o : Nat} {xs : List Re} (h : pcs0 rec l n o = .ok (xs, l', n')) : pcs0 rec l (n + m) o = .ok (shs m xs, l', n' + m) := by
  unfold pcs0 at h ⊢
  split at h
  · rename_i h1
    rw [if_pos h1]
    have := pcsR_sh hr m o _ _ _ _ h
    rw [shs, shs, one_sh m 4 (by decide)] at this
    exact this
  · rename_i h1
    rw [if_neg h1]
    exact pcsR_sh hr m o _ _ _ _ h
theorem altR_sh {rec : Rec} (hr : RecSh rec) (m : Nat) {l l' : List Int} {n n' o : Nat} {x : Re} (h : altR rec l n o = .ok (x, l', n')) : altR rec l (n + m) o = .ok (x.sh m, l', n' + m) := by
  unfold altR at h ⊢
  split at h
  · cases h
  · rename_i xs l1 n1 h1
    rw [pcs0_sh hr m h1]
    simp only [Except.ok.injEq, Prod.mk.injEq] at h ⊢
    obtain ⟨rfl, rfl, rfl⟩ := h
    exact ⟨by rw [joinR_sh m 8 (by decide)], rfl, rfl⟩
theorem altsL_sh {rec : Rec} (hr : RecSh rec) (m : Nat) (o : Nat) : ∀ (f : Nat) (acc : List Re) (l : List Int) (n : Nat) {xs : List Re} {l' : List Int} {n' : Nat}, altsL rec o f acc l n = .ok (xs, l', n') → altsL rec o f (shs m acc) l (n + m) = .ok (shs m xs, l', n' + m)
  | 0, acc, l, n, xs, l', n', h => by cases h
  | f + 1, acc, l, n, xs, l', n', h => by
    unfold altsL at h ⊢
    split at h
    · rename_i h1
      rw [if_pos h1]
      split at h
      · cases h
      · rename_i x l1 n1 h2
        rw [altR_sh hr m h2]
        simp only
        have := altsL_sh hr m o f _ _ _ h
        rw [shs_append] at this
        exact this
    · rename_i h1
      rw [if_neg h1]
      simp only [Except.ok.injEq, Prod.mk.injEq] at h ⊢
      obtain ⟨rfl, rfl, rfl⟩ := h
      exact ⟨rfl, rfl, rfl⟩
theorem alts0_sh {rec : Rec} (hr : RecSh rec) (m : Nat) {l l' : List Int} {n n' o : Nat} {xs : List Re} (h : alts0 rec l n o = .ok (xs, l', n')) : alts0 rec l (n + m) o = .ok (shs m xs, l', n' + m) := by
  unfold alts0 at h ⊢
  split at h
  · cases h
  · rename_i x2 l2 n2 h2
    rw [altR_sh hr m h2]
    simp only
    exact altsL_sh hr m o _ _ _ _ h
theorem altsR_sh {rec : Rec} (hr : RecSh rec) : RecSh (altsR rec) := by
  intro m l n o x l' n' h
  unfold altsR at h ⊢
  split at h
  · cases h
  · rename_i xs l1 n1 h1
    rw [alts0_sh hr m h1]
    simp only [Except.ok.injEq, Prod.mk.injEq] at h ⊢
    obtain ⟨rfl, rfl, rfl⟩ := h
    exact ⟨by rw [joinR_sh m 9 (by decide)], rfl, rfl⟩
theorem alts_sh : ∀ d, RecSh (alts d)
  | 0 => fun m l n o x l' n' h => by cases h
  | d + 1 => altsR_sh (alts_sh d)

-- two patterns with a choice between them
theorem altsL_acc {rec : Rec} (o : Nat) : ∀ (f : Nat) (acc : List Re) (l : List Int) (n : Nat) {xs : List Re} {l' : List Int} {n' : Nat}, altsL rec o f acc l n = .ok (xs, l', n') → ∃ ys, xs = acc ++ ys ∧ ∀ (f' : Nat) (acc2 : List Re), f ≤ f' → altsL rec o f' acc2 l n = .ok (acc2 ++ ys, l', n')
  | 0, acc, l, n, xs, l', n', h => by cases h
  | f + 1, acc, l, n, xs, l', n', h => by
    unfold altsL at h
    split at h
    · rename_i h1
      split at h
      · cases h
      · rename_i x l1 n1 h2
        obtain ⟨ys, rfl, h3⟩ := altsL_acc o f _ _ _ h
        refine ⟨x :: ys, by simp, fun f' acc2 hf => ?_⟩
        obtain ⟨g, rfl⟩ : ∃ g, f' = g + 1 := ⟨f' - 1, by omega⟩
        rw [altsL, if_pos h1, h2]
        simp only
        rw [h3 g _ (by omega)]
        simp
    · rename_i h1
      simp only [Except.ok.injEq, Prod.mk.injEq] at h
      obtain ⟨rfl, rfl, rfl⟩ := h
      refine ⟨[], by simp, fun f' acc2 hf => ?_⟩
      obtain ⟨g, rfl⟩ : ∃ g, f' = g + 1 := ⟨f' - 1, by omega⟩
      rw [altsL, if_neg h1, List.append_nil]
theorem altsL_go {rec : Rec} (hr : RecE rec) (b : List Int) (o : Nat) : ∀ (f g : Nat) (acc : List Re) (l : List Int) (n : Nat) {xs zs : List Re} {n' : Nat} {r : List Int × Nat}, altsL rec o f acc l n = .ok (xs, [], n') → altsL rec o g xs (tl b) n' = .ok (zs, r) → altsL rec o (f + g) acc (l ++ tl b) n = .ok (zs, r)
  | 0, g, acc, l, n, xs, zs, n', r, h, k => by cases h
  | f + 1, g, acc, l, n, xs, zs, n', r, h, k => by
    unfold altsL at h
    split at h
    · rename_i h1
      split at h
      · cases h
      · rename_i x l1 n1 h2
        rw [show f + 1 + g = f + g + 1 by omega, altsL, preC_ext l b (by rintro rfl; cases h1), if_pos h1, drop_ext h1 b 2 rfl, altR_ext hr h2 b]
        exact altsL_go hr b o f g _ _ _ h k
    · simp only [Except.ok.injEq, Prod.mk.injEq] at h
      obtain ⟨rfl, rfl, rfl⟩ := h
      obtain ⟨r1, r2⟩ := r
      obtain ⟨ys, rfl, h3⟩ := altsL_acc o g _ _ _ k
      exact h3 _ _ (by omega)
def Re.kd : Re → Int
  | .mk k _ _ _ _ _ _ => k
theorem parse_ok {p : List Int} {x : Re} {n : Nat} (h : parse p = .ok (x, n)) : ∃ xs, x = joinR 9 xs ∧ alts0 (alts 16) p 0 0 = .ok (xs, [], n) ∧ x.sz ≤ 400 := by
  unfold parse at h
  split at h
  · cases h
  · rename_i x1 l1 n1 h1
    split at h
    · cases h
    split at h
    · cases h
    rename_i h2 h3
    simp only [Except.ok.injEq, Prod.mk.injEq] at h
    obtain ⟨rfl, rfl⟩ := h
    have hl : l1 = [] := List.eq_nil_of_length_eq_zero (by omega)
    subst hl
    rw [alts, altsR] at h1
    split at h1
    · cases h1
    · rename_i xs l2 n2 h4
      simp only [Except.ok.injEq, Prod.mk.injEq] at h1
      obtain ⟨rfl, rfl, rfl⟩ := h1
      exact ⟨xs, rfl, h4, by omega⟩
theorem alts0_ne {rec : Rec} {l : List Int} {n o : Nat} {xs : List Re} {r : List Int × Nat} (h : alts0 rec l n o = .ok (xs, r)) : xs ≠ [] := by
  unfold alts0 at h
  split at h
  · cases h
  · obtain ⟨r1, r2⟩ := r
    obtain ⟨ys, rfl, _⟩ := altsL_acc o _ _ _ _ h
    simp
theorem joinR_szX (k : Int) (hk : k ≠ 10) (xs : List Re) : szs xs ≤ (joinR k xs).sz ∧ (joinR k xs).sz ≤ szs xs + 1 := by
  match xs with
  | [] => simp [joinR, Re.one, Re.sz, szs]
  | [x] => simp [joinR, szs]
  | x :: y :: xs => simp [joinR, Re.sz, hk, szs]; omega
theorem szs_app : ∀ (xs ys : List Re), szs (xs ++ ys) = szs xs + szs ys
  | [], ys => by simp [szs]
  | x :: xs, ys => by rw [List.cons_append, szs, szs, szs_app xs ys]; omega
-- no alternative is a choice
theorem reps_kind : ∀ (f : Nat) (x : Re) (l : List Int) {y : Re} {l' : List Int}, reps f x l = .ok (y, l') → x.kd ≠ 9 → y.kd ≠ 9
  | 0, x, l, y, l', h, hx => by cases h
  | f + 1, x, l, y, l', h, hx => by
    unfold reps at h
    split at h
    · exact reps_kind f _ _ h (by simp [Re.star, Re.kd])
    split at h
    · split at h
      · cases h
      · exact reps_kind f _ _ h (by simp [Re.star, Re.kd])
    · simp only [Except.ok.injEq, Prod.mk.injEq] at h
      rw [← h.1]; exact hx
theorem atomR_kind {rec : Rec} {l l' : List Int} {n n' o : Nat} {x : Re} (h : atomR rec l n o = .ok (x, l', n')) : x.kd ≠ 9 := by
  cases l with
  | nil => cases h
  | cons c l =>
    unfold atomR at h
    simp only at h
    split at h
    · simp only [Except.ok.injEq, Prod.mk.injEq] at h; rw [← h.1]; simp [Re.one, Re.kd]
    split at h
    · obtain ⟨⟨st, nt, rfl⟩, _⟩ := setN_kind h; simp [Re.kd]
    split at h
    · simp only [Except.ok.injEq, Prod.mk.injEq] at h; rw [← h.1]; simp [Re.one, Re.kd]
    split at h
    · cases l with
      | nil => cases h
      | cons d l =>
        unfold escR at h
        simp only at h
        split at h
        · unfold grpR at h
          split at h
          · cases h
          split at h
          · cases h
          split at h
          · simp only [Except.ok.injEq, Prod.mk.injEq] at h; rw [← h.1]; simp [Re.grp, Re.kd]
          · cases h
        repeat' (split at h)
        all_goals first
          | (cases h; done)
          | (simp only [Except.ok.injEq, Prod.mk.injEq] at h; rw [← h.1]; simp [Re.one, Re.rune, Re.kd])
    · simp only [Except.ok.injEq, Prod.mk.injEq] at h; rw [← h.1]; simp [Re.rune, Re.kd]
theorem pcsR_kind {rec : Rec} (o : Nat) : ∀ (f : Nat) (acc : List Re) (l : List Int) (n : Nat) {xs : List Re} {l' : List Int} {n' : Nat}, pcsR rec o f acc l n = .ok (xs, l', n') → (∀ x ∈ acc, x.kd ≠ 9) → ∀ x ∈ xs, x.kd ≠ 9
  | 0, acc, l, n, xs, l', n', h, ha => by cases h
  | f + 1, acc, l, n, xs, l', n', h, ha => by
    unfold pcsR at h
    split at h
    · simp only [Except.ok.injEq, Prod.mk.injEq] at h
      rw [← h.1]; exact ha
    split at h
    · cases h
    · rename_i x l1 n1 h2
      split at h
      · cases h
      · rename_i y l2 h3
        refine pcsR_kind o f _ _ _ h ?_
        intro z hz
        rcases List.mem_append.1 hz with hz | hz
        · exact ha z hz
        · rw [List.mem_singleton] at hz
          rw [hz]
          exact reps_kind _ _ _ h3 (atomR_kind h2)
theorem altR_kind {rec : Rec} {l l' : List Int} {n n' o : Nat} {x : Re} (h : altR rec l n o = .ok (x, l', n')) : x.kd ≠ 9 := by
  unfold altR at h
  split at h
  · cases h
  · rename_i xs l1 n1 h1
    simp only [Except.ok.injEq, Prod.mk.injEq] at h
    rw [← h.1]
    have hk : ∀ y ∈ xs, y.kd ≠ 9 := by
      unfold pcs0 at h1
      split at h1
      · exact pcsR_kind o _ _ _ _ h1 (by intro y hy; rw [List.mem_singleton] at hy; rw [hy]; simp [Re.one, Re.kd])
      · exact pcsR_kind o _ _ _ _ h1 (by simp)
    match xs, hk with
    | [], hk => simp [joinR, Re.one, Re.kd]
    | [y], hk => exact hk y (by simp)
    | y :: z :: ys, hk => simp [joinR, Re.kd]
theorem alts0_kind {rec : Rec} {l : List Int} {n o : Nat} {x : Re} {r : List Int × Nat} (h : alts0 rec l n o = .ok ([x], r)) : x.kd ≠ 9 := by
  unfold alts0 at h
  split at h
  · cases h
  · rename_i x2 l2 n2 h2
    obtain ⟨r1, r2⟩ := r
    obtain ⟨ys, he, _⟩ := altsL_acc o _ _ _ _ h
    simp only [List.singleton_append, List.cons.injEq] at he
    rw [he.1]
    exact altR_kind h2
theorem parse_choice {a b : List Int} {x y : Re} {na nb : Nat} (ha : parse a = .ok (x, na)) (hb : parse b = .ok (y, nb)) (hx : x.sz ≤ 100) (hy : y.sz ≤ 100) :
    ∃ xs ys, x = joinR 9 xs ∧ xs ≠ [] ∧ ys ≠ [] ∧ (∀ z, xs = [z] → z.kd ≠ 9) ∧ parse (a ++ tl b) = .ok (joinR 9 (xs ++ ys), na + nb) := by
  obtain ⟨xs, rfl, h1, _⟩ := parse_ok ha
  obtain ⟨ys, rfl, h2, _⟩ := parse_ok hb
  have hs1 := joinR_szX 9 (by decide) xs
  have hs2 := joinR_szX 9 (by decide) ys
  refine ⟨xs, shs na ys, rfl, alts0_ne h1, ?_, ?_, ?_⟩
  · intro e
    have := congrArg List.length e
    rw [shs_len, List.length_nil] at this
    exact alts0_ne h2 (List.eq_nil_of_length_eq_zero this)
  · rintro z rfl
    exact alts0_kind h1
  have h3 := alts0_sh (alts_sh 16) na h2
  rw [Nat.zero_add] at h3
  have hz : alts0 (alts 16) (a ++ tl b) 0 0 = .ok (xs ++ shs na ys, [], na + nb) := by
    unfold alts0 at h1 h3 ⊢
    split at h1
    · cases h1
    · rename_i x1 l1 n1 h4
      rw [altR_ext (alts_ext 16) h4 b]
      simp only
      split at h3
      · cases h3
      · rename_i y1 l2 n2 h5
        obtain ⟨ys1, he, h6⟩ := altsL_acc 0 _ _ _ _ h3
        have hk : altsL (alts 16) 0 (l2.length + 2) xs (tl b) na = .ok (xs ++ shs na ys, [], nb + na) := by
          rw [altsL, if_pos (by simp [pre, tl, List.isPrefixOf])]
          rw [show (tl b).drop 2 = b from rfl, h5]
          simp only
          rw [h6 _ _ (Nat.le_refl _), he]
          simp
        have hg := altsL_go (alts_ext 16) b 0 _ _ _ _ _ h1 hk
        obtain ⟨zs, hze, h7⟩ := altsL_acc 0 _ _ _ _ hg
        rw [Nat.add_comm nb na] at h7
        have hl2 : l2.length ≤ b.length := (altR_suffix (alts_suffix 16) h5).length_le
        rw [h7 _ _ (by simp only [List.length_append]; simp only [tl, List.length_cons]; omega), hze]
  rw [parse, alts, altsR, hz]
  have hs3 := joinR_szX 9 (by decide) (xs ++ shs na ys)
  have hs4 := szs_app xs (shs na ys)
  rw [shs_sz] at hs4
  simp only [List.length_nil, Nat.lt_irrefl, if_false]
  rw [if_neg (by omega)]
end Go.Proofs.Ytkjiobbkbhmijaa.U
