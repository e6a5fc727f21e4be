/-
  How many groups a part that was read has; its counts are bounded. No program here.
-/
import Derived.Test.YtkjiobbkbhmijaaRExt
namespace Go.Proofs.Ytkjiobbkbhmijaa.U
set_option linter.unusedVariables false
set_option linter.unusedSimpArgs false

theorem cnts_append : ∀ (xs ys : List Re), cnts (xs ++ ys) = cnts xs + cnts ys
  | [], ys => by simp [cnts]
  | x :: xs, ys => by rw [List.cons_append, cnts, cnts, cnts_append xs ys]; omega
theorem joinR_cnt (k : Int) (hk : k ≠ 11) (xs : List Re) : (joinR k xs).cnt = cnts xs := by
  match xs with
  | [] => simp [joinR, Re.one, Re.cnt, cnts]
  | [x] => simp [joinR, cnts]
  | x :: y :: xs => simp [joinR, Re.cnt, hk]
theorem reps_cnt : ∀ (f : Nat) (x : Re) (l : List Int) {y : Re} {l' : List Int}, reps f x l = .ok (y, l') → y.cnt = x.cnt
  | 0, x, l, y, l', h => by cases h
  | f + 1, x, l, y, l', h => by
    unfold reps at h
    split at h
    · rw [reps_cnt f _ _ h]; simp [Re.star, Re.cnt, cnts]
    split at h
    · split at h
      · cases h
      · rw [reps_cnt f _ _ h]; simp [Re.star, Re.cnt, cnts]
    · simp only [Except.ok.injEq, Prod.mk.injEq] at h
      rw [h.1]
def RecC (rec : Rec) : Prop := ∀ l n o x l' n', rec l n o = .ok (x, l', n') → n' = n + x.cnt
theorem grpR_cnt {rec : Rec} (hr : RecC rec) {l l' : List Int} {n n' o : Nat} {x : Re} (h : grpR rec l n o = .ok (x, l', n')) : n' = n + x.cnt := by
  unfold grpR at h
  split at h
  · cases h
  split at h
  · cases h
  · rename_i x1 l1 n1 h1
    split at h
    · simp only [Except.ok.injEq, Prod.mk.injEq] at h
      obtain ⟨rfl, rfl, rfl⟩ := h
      rw [hr _ _ _ _ _ _ h1]
      simp [Re.grp, Re.cnt, cnts]
      omega
    · cases h
theorem atomR_cnt {rec : Rec} (hr : RecC rec) {l l' : List Int} {n n' o : Nat} {x : Re} (h : atomR rec l n o = .ok (x, l', n')) : n' = n + x.cnt := by
  cases l with
  | nil => cases h
  | cons c l =>
    unfold atomR at h
    simp only at h
    split at h
    · cases h; simp [Re.one, Re.cnt, cnts]
    split at h
    · obtain ⟨⟨st, nt, rfl⟩, rfl, _⟩ := setN_kind h; simp [Re.cnt, cnts]
    split at h
    · cases h; simp [Re.one, Re.cnt, cnts]
    split at h
    · cases l with
      | nil => cases h
      | cons d l =>
        unfold escR at h
        simp only at h
        split at h
        · exact grpR_cnt hr h
        repeat' (split at h)
        all_goals first
          | (cases h; done)
          | (cases h; simp [Re.one, Re.rune, Re.cnt, cnts])
    · cases h; simp [Re.rune, Re.cnt, cnts]
theorem pcsR_cnt {rec : Rec} (hr : RecC rec) (o : Nat) : ∀ (f : Nat) (acc : List Re) (l : List Int) (n : Nat) {xs : List Re} {l' : List Int} {n' : Nat}, pcsR rec o f acc l n = .ok (xs, l', n') → n' + cnts acc = n + cnts xs
  | 0, acc, l, n, xs, l', n', h => by cases h
  | f + 1, acc, l, n, xs, l', n', h => by
    unfold pcsR at h
    split at h
    · cases h; rfl
    split at h
    · cases h
    · rename_i x l1 n1 h2
      split at h
      · cases h
      · rename_i y l2 h3
        have h4 := pcsR_cnt hr o f _ _ _ h
        have h5 := atomR_cnt hr h2
        have h6 := reps_cnt _ _ _ h3
        rw [cnts_append] at h4
        simp only [cnts] at h4
        omega
theorem altR_cnt {rec : Rec} (hr : RecC rec) {l l' : List Int} {n n' o : Nat} {x : Re} (h : altR rec l n o = .ok (x, l', n')) : n' = n + x.cnt := by
  unfold altR at h
  split at h
  · cases h
  · rename_i xs l1 n1 h1
    simp only [Except.ok.injEq, Prod.mk.injEq] at h
    obtain ⟨rfl, rfl, rfl⟩ := h
    rw [joinR_cnt 8 (by decide)]
    unfold pcs0 at h1
    split at h1
    · have := pcsR_cnt hr o _ _ _ _ h1
      simp [cnts, Re.one, Re.cnt] at this
      omega
    · have := pcsR_cnt hr o _ _ _ _ h1
      simp [cnts] at this
      omega
theorem altsL_cnt {rec : Rec} (hr : RecC rec) (o : Nat) : ∀ (f : Nat) (acc : List Re) (l : List Int) (n : Nat) {xs : List Re} {l' : List Int} {n' : Nat}, altsL rec o f acc l n = .ok (xs, l', n') → n' + cnts acc = n + cnts xs
  | 0, acc, l, n, xs, l', n', h => by cases h
  | f + 1, acc, l, n, xs, l', n', h => by
    unfold altsL at h
    split at h
    · split at h
      · cases h
      · rename_i x l1 n1 h2
        have h4 := altsL_cnt hr o f _ _ _ h
        have h5 := altR_cnt hr h2
        rw [cnts_append] at h4
        simp only [cnts] at h4
        omega
    · cases h; rfl
theorem altsR_cnt {rec : Rec} (hr : RecC rec) : RecC (altsR rec) := by
  intro l n o x l' n' h
  unfold altsR alts0 at h
  split at h
  · cases h
  · rename_i xs l1 n1 h1
    simp only [Except.ok.injEq, Prod.mk.injEq] at h
    obtain ⟨rfl, rfl, rfl⟩ := h
    split at h1
    · cases h1
    · rename_i x2 l2 n2 h2
      have h4 := altsL_cnt hr o _ _ _ _ h1
      have h5 := altR_cnt hr h2
      rw [joinR_cnt 9 (by decide)]
      simp only [cnts] at h4
      omega
theorem alts_cnt : ∀ d, RecC (alts d)
  | 0 => fun l n o x l' n' h => by cases h
  | d + 1 => altsR_cnt (alts_cnt d)
theorem parse_cnt {p : List Int} {x : Re} {n : Nat} (h : parse p = .ok (x, n)) : x.cnt = n := by
  unfold parse at h
  split at h
  · cases h
  · rename_i x1 l1 n1 h1
    split at h
    · cases h
    split at h
    · cases h
    simp only [Except.ok.injEq, Prod.mk.injEq] at h
    obtain ⟨rfl, rfl⟩ := h
    have := alts_cnt 17 _ _ _ _ _ _ h1
    omega

-- counts are bounded
mutual
def Re.tame : Re → Prop
  | .mk _ _ _ _ lo hi ps => (lo ≤ 1000000 ∧ hi ≤ 1000000) ∧ tames ps
def tames : List Re → Prop
  | [] => True
  | x :: xs => x.tame ∧ tames xs
end
theorem tames_append : ∀ {xs ys : List Re}, tames xs → tames ys → tames (xs ++ ys)
  | [], ys, h, k => k
  | x :: xs, ys, h, k => by
    rw [List.cons_append, tames]
    rw [tames] at h
    exact ⟨h.1, tames_append h.2 k⟩
theorem tames_mem : ∀ {xs : List Re} {x : Re}, tames xs → x ∈ xs → x.tame
  | y :: xs, x, h, hx => by
    rw [tames] at h
    rcases List.mem_cons.1 hx with rfl | hx
    · exact h.1
    · exact tames_mem h.2 hx
theorem joinR_tame (k : Int) {xs : List Re} (h : tames xs) : (joinR k xs).tame := by
  match xs, h with
  | [], h => simp [joinR, Re.one, Re.tame, tames]
  | [x], h => rw [tames] at h; exact h.1
  | x :: y :: xs, h => rw [joinR, Re.tame]; exact ⟨by omega, h⟩
theorem badT_le {lo hi : Int} (h : ¬ badT lo hi = true) : lo ≤ 100 ∧ hi ≤ 100 := by
  simp only [badT, Bool.or_eq_true, decide_eq_true_eq, not_or] at h
  omega
theorem counts_le {l l' : List Int} {lo hi : Int} (h : counts l = .ok (lo, hi, l')) : lo ≤ 100 ∧ hi ≤ 100 := by
  unfold counts at h
  split at h
  · cases h
  split at h
  · cases h
  rename_i hb
  split at h
  · simp only [Except.ok.injEq, Prod.mk.injEq] at h
    obtain ⟨rfl, rfl, _⟩ := h
    exact badT_le hb
  · cases h
theorem star_tame {x : Re} {lo hi : Int} (h : x.tame) (h1 : lo ≤ 100) (h2 : hi ≤ 100) : (x.star lo hi).tame := by
  rw [Re.star, Re.tame, tames, tames]
  exact ⟨by omega, h, trivial⟩
theorem reps_tame : ∀ (f : Nat) (x : Re) (l : List Int) {y : Re} {l' : List Int}, reps f x l = .ok (y, l') → x.tame → y.tame
  | 0, x, l, y, l', h, hx => by cases h
  | f + 1, x, l, y, l', h, hx => by
    unfold reps at h
    split at h
    · exact reps_tame f _ _ h (star_tame hx (by decide) (by decide))
    split at h
    · split at h
      · cases h
      · rename_i hc
        have := counts_le hc
        exact reps_tame f _ _ h (star_tame hx this.1 this.2)
    · cases h; exact hx
/-- a part that was read of a text no longer than so -/
def RecT (rec : Rec) : Prop := ∀ l n o x l' n', rec l n o = .ok (x, l', n') → n + l.length ≤ 1000000 → x.tame
theorem one_tame (k : Int) : (Re.one k).tame := by simp [Re.one, Re.tame, tames]
theorem rune_tame (c : Int) : (Re.rune c).tame := by simp [Re.rune, Re.tame, tames]
def RecN (rec : Rec) : Prop := ∀ l n o x l' n', rec l n o = .ok (x, l', n') → n' + l'.length ≤ n + l.length
theorem grpR_n {rec : Rec} (hr : RecN rec) {l l' : List Int} {n n' o : Nat} {x : Re} (h : grpR rec l n o = .ok (x, l', n')) : n' + l'.length + 1 ≤ n + l.length := by
  unfold grpR at h
  split at h
  · cases h
  split at h
  · cases h
  · rename_i x1 l1 n1 h1
    split at h
    · rename_i hp
      simp only [Except.ok.injEq, Prod.mk.injEq] at h
      obtain ⟨rfl, rfl, rfl⟩ := h
      have := hr _ _ _ _ _ _ h1
      have := pre_len hp
      simp only [List.length_cons, List.length_nil, List.length_drop] at *
      omega
    · cases h
theorem atomR_n {rec : Rec} (hr : RecN rec) (hs : RecS rec) {l l' : List Int} {n n' o : Nat} {x : Re} (h : atomR rec l n o = .ok (x, l', n')) : n' + l'.length + 1 ≤ n + l.length := by
  cases l with
  | nil => cases h
  | cons c l =>
    unfold atomR at h
    simp only [List.length_cons] at h ⊢
    split at h
    · cases h; omega
    split at h
    · obtain ⟨_, rfl, _⟩ := setN_kind h
      have := (setN_suffix h).length_le
      omega
    split at h
    · cases h; omega
    split at h
    · cases l with
      | nil => cases h
      | cons d l =>
        unfold escR at h
        simp only [List.length_cons] at h ⊢
        split at h
        · have := grpR_n hr h; omega
        repeat' (split at h)
        all_goals first
          | (cases h; done)
          | (cases h; omega)
    · cases h; omega
theorem pcsR_n {rec : Rec} (hr : RecN rec) (hs : RecS rec) (o : Nat) : ∀ (f : Nat) (acc : List Re) (l : List Int) (n : Nat) {xs : List Re} {l' : List Int} {n' : Nat}, pcsR rec o f acc l n = .ok (xs, l', n') → n' + l'.length ≤ n + l.length
  | 0, acc, l, n, xs, l', n', h => by cases h
  | f + 1, acc, l, n, xs, l', n', h => by
    unfold pcsR at h
    split at h
    · cases h; omega
    split at h
    · cases h
    · rename_i x l1 n1 h2
      split at h
      · cases h
      · rename_i y l2 h3
        have h4 := pcsR_n hr hs o f _ _ _ h
        have h5 := atomR_n hr hs h2
        have h6 := (reps_suffix _ _ _ h3).length_le
        omega
theorem altR_n {rec : Rec} (hr : RecN rec) (hs : RecS rec) {l l' : List Int} {n n' o : Nat} {x : Re} (h : altR rec l n o = .ok (x, l', n')) : n' + l'.length ≤ n + l.length := by
  unfold altR pcs0 at h
  split at h
  · cases h
  · rename_i xs l1 n1 h1
    cases h
    split at h1
    · have := pcsR_n hr hs o _ _ _ _ h1
      simp only [List.length_drop] at this
      omega
    · exact pcsR_n hr hs o _ _ _ _ h1
theorem altsL_n {rec : Rec} (hr : RecN rec) (hs : RecS rec) (o : Nat) : ∀ (f : Nat) (acc : List Re) (l : List Int) (n : Nat) {xs : List Re} {l' : List Int} {n' : Nat}, altsL rec o f acc l n = .ok (xs, l', n') → n' + l'.length ≤ n + l.length
  | 0, acc, l, n, xs, l', n', h => by cases h
  | f + 1, acc, l, n, xs, l', n', h => by
    unfold altsL at h
    split at h
    · split at h
      · cases h
      · rename_i x l1 n1 h2
        have h4 := altsL_n hr hs o f _ _ _ h
        have h5 := altR_n hr hs h2
        simp only [List.length_drop] at h5
        omega
    · cases h; omega
theorem alts0_n {rec : Rec} (hr : RecN rec) (hs : RecS rec) {l l' : List Int} {n n' o : Nat} {xs : List Re} (h : alts0 rec l n o = .ok (xs, l', n')) : n' + l'.length ≤ n + l.length := by
  unfold alts0 at h
  split at h
  · cases h
  · rename_i x2 l2 n2 h2
    have h4 := altsL_n hr hs o _ _ _ _ h
    have h5 := altR_n hr hs h2
    omega
theorem altsR_n {rec : Rec} (hr : RecN rec) (hs : RecS rec) : RecN (altsR rec) := by
  intro l n o x l' n' h
  unfold altsR at h
  split at h
  · cases h
  · rename_i xs l1 n1 h1
    cases h
    exact alts0_n hr hs h1
theorem alts_n : ∀ d, RecN (alts d)
  | 0 => fun l n o x l' n' h => by cases h
  | d + 1 => altsR_n (alts_n d) (alts_suffix d)
theorem grpR_tame {rec : Rec} (hr : RecT rec) {l l' : List Int} {n n' o : Nat} {x : Re} (h : grpR rec l n o = .ok (x, l', n')) (hl : n + l.length < 1000000) : x.tame := by
  unfold grpR at h
  split at h
  · cases h
  split at h
  · cases h
  · rename_i x1 l1 n1 h1
    split at h
    · cases h
      rw [Re.grp, Re.tame, tames, tames]
      exact ⟨by omega, hr _ _ _ _ _ _ h1 (by omega), trivial⟩
    · cases h
theorem atomR_tame {rec : Rec} (hr : RecT rec) {l l' : List Int} {n n' o : Nat} {x : Re} (h : atomR rec l n o = .ok (x, l', n')) (hl : n + l.length ≤ 1000000) : x.tame := by
  cases l with
  | nil => cases h
  | cons c l =>
    unfold atomR at h
    simp only [List.length_cons] at h hl
    split at h
    · cases h; exact one_tame _
    split at h
    · obtain ⟨⟨st, nt, rfl⟩, _⟩ := setN_kind h; simp [Re.tame, tames]
    split at h
    · cases h; exact one_tame _
    split at h
    · cases l with
      | nil => cases h
      | cons d l =>
        unfold escR at h
        simp only [List.length_cons] at h hl
        split at h
        · exact grpR_tame hr h (by omega)
        repeat' (split at h)
        all_goals first
          | (cases h; done)
          | (cases h; first | exact one_tame _ | exact rune_tame _)
    · cases h; exact rune_tame _
theorem pcsR_tame {rec : Rec} (hr : RecT rec) (hn : RecN rec) (hs : RecS rec) (o : Nat) : ∀ (f : Nat) (acc : List Re) (l : List Int) (n : Nat) {xs : List Re} {l' : List Int} {n' : Nat}, pcsR rec o f acc l n = .ok (xs, l', n') → tames acc → n + l.length ≤ 1000000 → tames xs
  | 0, acc, l, n, xs, l', n', h, ha, hl => by cases h
  | f + 1, acc, l, n, xs, l', n', h, ha, hl => by
    unfold pcsR at h
    split at h
    · cases h; exact ha
    split at h
    · cases h
    · rename_i x l1 n1 h2
      split at h
      · cases h
      · rename_i y l2 h3
        have h5 := atomR_n hn hs h2
        have h6 := (reps_suffix _ _ _ h3).length_le
        exact pcsR_tame hr hn hs o f _ _ _ h (tames_append ha (by rw [tames, tames]; exact ⟨reps_tame _ _ _ h3 (atomR_tame hr h2 hl), trivial⟩)) (by omega)
theorem altR_tame {rec : Rec} (hr : RecT rec) (hn : RecN rec) (hs : RecS rec) {l l' : List Int} {n n' o : Nat} {x : Re} (h : altR rec l n o = .ok (x, l', n')) (hl : n + l.length ≤ 1000000) : x.tame := by
  unfold altR pcs0 at h
  split at h
  · cases h
  · rename_i xs l1 n1 h1
    cases h
    refine joinR_tame 8 ?_
    split at h1
    · exact pcsR_tame hr hn hs o _ _ _ _ h1 (by rw [tames, tames]; exact ⟨one_tame _, trivial⟩) (by simp only [List.length_drop]; omega)
    · exact pcsR_tame hr hn hs o _ _ _ _ h1 (by rw [tames]; trivial) hl
theorem altsL_tame {rec : Rec} (hr : RecT rec) (hn : RecN rec) (hs : RecS rec) (o : Nat) : ∀ (f : Nat) (acc : List Re) (l : List Int) (n : Nat) {xs : List Re} {l' : List Int} {n' : Nat}, altsL rec o f acc l n = .ok (xs, l', n') → tames acc → n + l.length ≤ 1000000 → tames xs
  | 0, acc, l, n, xs, l', n', h, ha, hl => by cases h
  | f + 1, acc, l, n, xs, l', n', h, ha, hl => by
    unfold altsL at h
    split at h
    · split at h
      · cases h
      · rename_i x l1 n1 h2
        have h5 := altR_n hn hs h2
        simp only [List.length_drop] at h5
        exact altsL_tame hr hn hs o f _ _ _ h (tames_append ha (by rw [tames, tames]; exact ⟨altR_tame hr hn hs h2 (by simp only [List.length_drop]; omega), trivial⟩)) (by omega)
    · cases h; exact ha
theorem altsR_tame {rec : Rec} (hr : RecT rec) (hn : RecN rec) (hs : RecS rec) : RecT (altsR rec) := by
  intro l n o x l' n' h hl
  unfold altsR alts0 at h
  split at h
  · cases h
  · rename_i xs l1 n1 h1
    cases h
    refine joinR_tame 9 ?_
    split at h1
    · cases h1
    · rename_i x2 l2 n2 h2
      have h5 := altR_n hn hs h2
      exact altsL_tame hr hn hs o _ _ _ _ h1 (by rw [tames, tames]; exact ⟨altR_tame hr hn hs h2 hl, trivial⟩) (by omega)
theorem alts_tame : ∀ d, RecT (alts d)
  | 0 => fun l n o x l' n' h => by cases h
  | d + 1 => altsR_tame (alts_tame d) (alts_n d) (alts_suffix d)
theorem parse_tame {p : List Int} {x : Re} {n : Nat} (h : parse p = .ok (x, n)) (hl : p.length ≤ 1000000) : x.tame := by
  unfold parse at h
  split at h
  · cases h
  · rename_i x1 l1 n1 h1
    split at h
    · cases h
    split at h
    · cases h
    cases h
    exact alts_tame 17 _ _ _ _ _ _ h1 (by omega)
end Go.Proofs.Ytkjiobbkbhmijaa.U
