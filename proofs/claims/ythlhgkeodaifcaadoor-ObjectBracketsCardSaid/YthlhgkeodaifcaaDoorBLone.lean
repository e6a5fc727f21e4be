/-
  The nearest bracket to each side that has not its other one between, and the pair around a place. No program here.
-/
import Derived.Test.YthlhgkeodaifcaaDoorBLaw
namespace Go.Proofs.YthlhgkeodaifcaaDoor.U
set_option linter.unusedVariables false
set_option linter.unusedSimpArgs false

theorem aheadP_tri (p q : Pl) : aheadP p q = true ∨ p = q ∨ aheadP q p = true := by
  obtain ⟨a, b⟩ := p
  obtain ⟨c, d⟩ := q
  rw [aheadP_iff, aheadP_iff, Prod.mk.injEq]
  simp only
  omega
/-- the first of the runes that is own and has not as many others ahead of it; the other one at p does not count -/
def loneP (own other : Int) (p : Pl) : List (Pl × Int) → Nat → Option Pl
  | [], _ => none
  | (q, r) :: t, n => if r = own then (if n = 0 then some q else loneP own other p t (n - 1)) else if r = other ∧ q ≠ p then loneP own other p t (n + 1) else loneP own other p t n
def smB (o c : Int) (l : List (Pl × Int)) : Int := (l.map fun e => wB o c e.2).sum
theorem smB_nil (o c : Int) : smB o c [] = 0 := rfl
theorem smB_cons (o c : Int) (e : Pl × Int) (l : List (Pl × Int)) : smB o c (e :: l) = wB o c e.2 + smB o c l := by simp [smB]
theorem wB_own {o c : Int} (h : o ≠ c) : wB o c o = 1 := by unfold wB; rw [if_pos rfl, if_neg h]; rfl
theorem wB_oth {o c : Int} (h : o ≠ c) : wB o c c = -1 := by unfold wB; rw [if_neg (fun e => h e.symm), if_pos rfl]; rfl
theorem wB_not {o c r : Int} (h : r ≠ o) (h2 : r ≠ c) : wB o c r = 0 := by unfold wB; rw [if_neg h, if_neg h2]; rfl
theorem wB_bd (o c r : Int) : -1 ≤ wB o c r ∧ wB o c r ≤ 1 := by unfold wB; split <;> split <;> omega
theorem scan_cons (o c : Int) (k : Int) (e : Pl × Int) (t : List (Pl × Int)) : scanB o c k (e :: t) = if k + wB o c e.2 = 0 then some e.1 else scanB o c (k + wB o c e.2) t := rfl
theorem scan_app (o c : Int) : ∀ (s R : List (Pl × Int)) (k : Int), scanB o c k (s ++ R) = match scanB o c k s with
    | some q => some q
    | none => scanB o c (k + smB o c s) R
  | [], R, k => by simp [scanB, smB_nil]
  | e :: s, R, k => by
    rw [List.cons_append, scan_cons, scan_cons, smB_cons]
    by_cases h : k + wB o c e.2 = 0
    · rw [if_pos h, if_pos h]
    · rw [if_neg h, if_neg h, scan_app o c s R, Int.add_assoc]
theorem scan_mem {o c : Int} : ∀ {s : List (Pl × Int)} {k : Int} {q : Pl}, scanB o c k s = some q → ∃ r, (q, r) ∈ s
  | [], k, q, h => by cases h
  | e :: s, k, q, h => by
    rw [scan_cons] at h
    by_cases g : k + wB o c e.2 = 0
    · rw [if_pos g] at h; cases h; exact ⟨e.2, by simp⟩
    · rw [if_neg g] at h
      obtain ⟨r, hr⟩ := scan_mem h
      exact ⟨r, by simp [hr]⟩
/-- where it never comes down from a number, it never does from a greater one -/
theorem scan_up {o c : Int} : ∀ {R : List (Pl × Int)} {j k : Int}, 1 ≤ j → j ≤ k → scanB o c j R = none → scanB o c k R = none
  | [], j, k, _, _, _ => rfl
  | e :: R, j, k, h1, h2, h => by
    rw [scan_cons] at h ⊢
    have hb := wB_bd o c e.2
    by_cases g : j + wB o c e.2 = 0
    · rw [if_pos g] at h; cases h
    · rw [if_neg g] at h
      rw [if_neg (by omega)]
      exact scan_up (by omega) (by omega) h
theorem scan_stay {o c : Int} : ∀ {s : List (Pl × Int)} {k : Int}, 1 ≤ k → scanB o c k s = none → 1 ≤ k + smB o c s
  | [], k, h1, _ => by rw [smB_nil]; omega
  | e :: s, k, h1, h => by
    rw [scan_cons] at h
    have hb := wB_bd o c e.2
    by_cases g : k + wB o c e.2 = 0
    · rw [if_pos g] at h; cases h
    · rw [if_neg g] at h
      have := scan_stay (by omega) h
      rw [smB_cons]; omega
theorem scan_clear {o c : Int} : ∀ {s : List (Pl × Int)} {k : Int}, (∀ t, t <:+ s → smB o c t < k + smB o c s) → scanB o c k s = none
  | [], k, _ => rfl
  | e :: s, k, h => by
    have h0 := h s (List.suffix_cons e s)
    rw [smB_cons] at h0
    rw [scan_cons, if_neg (by omega)]
    refine scan_clear fun t ht => ?_
    have := h t (ht.trans (List.suffix_cons e s))
    rw [smB_cons] at this; omega
/-- forward -/
theorem lone_scan {o c : Int} (hoc : o ≠ c) {p : Pl} : ∀ (R : List (Pl × Int)) (n : Nat), (∀ e ∈ R, e.1 ≠ p) → loneP c o p R n = scanB o c ((n : Int) + 1) R
  | [], n, _ => rfl
  | (q, r) :: t, n, h => by
    have hq : q ≠ p := h (q, r) (by simp)
    have ht : ∀ e ∈ t, e.1 ≠ p := fun e he => h e (by simp [he])
    rw [loneP, scan_cons]
    simp only
    by_cases h1 : r = c
    · subst h1
      rw [if_pos rfl, wB_oth hoc]
      by_cases h2 : n = 0
      · rw [if_pos h2, if_pos (by omega)]
      · rw [if_neg h2, if_neg (by omega), lone_scan hoc t (n - 1) ht]
        congr 1; omega
    · rw [if_neg h1]
      by_cases h2 : r = o
      · subst h2
        rw [if_pos ⟨rfl, hq⟩, wB_own hoc, if_neg (by omega), lone_scan hoc t (n + 1) ht]
        rfl
      · rw [if_neg (fun g => h2 g.1), wB_not h2 h1, if_neg (by omega), lone_scan hoc t n ht]
        congr 1
/-- the nearest one that opens and is closed at p or behind it; what is behind a rune comes with it -/
def bfP (o c : Int) (p : Pl) : List (Pl × Int) → List (Pl × Int) → Option (Pl × Pl)
  | [], _ => none
  | e :: X, S => if aheadP p e.1 = false ∧ e.2 = o then (match scanB o c 0 (e :: S) with
      | some q => if aheadP q p = true then bfP o c p X (e :: S) else some (e.1, q)
      | none => bfP o c p X (e :: S)) else bfP o c p X (e :: S)
theorem find_bf (L : List (List Int)) (o c : Int) (p : Pl) : ∀ (X S : List (Pl × Int)), runesP L = X.reverse ++ S → (X.find? (opensB L p o c)).bind (fun e => (scanB o c 0 (fromP L e.1)).map fun q => (e.1, q)) = bfP o c p X S
  | [], S, _ => rfl
  | e :: X, S, h => by
    rw [List.reverse_cons, List.append_assoc, List.singleton_append] at h
    have hs : (runesP L)[X.length]? = some (e.1, e.2) := by
      rw [h, List.getElem?_append_right (by simp)]
      simp
    have hf := from_drop hs
    have hd : (runesP L).drop X.length = e :: S := by
      rw [h, List.drop_append_of_le_length (by simp), List.drop_eq_nil_of_le (by simp)]; rfl
    rw [hd] at hf
    have ih := find_bf L o c p X (e :: S) h
    rw [bfP]
    by_cases h1 : aheadP p e.1 = false ∧ e.2 = o
    · rw [if_pos h1]
      cases hq : scanB o c 0 (e :: S) with
      | none =>
        simp only
        rw [List.find?_cons_of_neg (by unfold opensB; rw [hf, hq]; simp)]
        exact ih
      | some q =>
        simp only
        by_cases h2 : aheadP q p = true
        · rw [if_pos h2, List.find?_cons_of_neg (by unfold opensB; rw [hf, hq]; simp [h2])]
          exact ih
        · rw [if_neg h2, List.find?_cons_of_pos (by unfold opensB; rw [hf, hq]; simp only [Bool.not_eq_true] at h2; simp [h2, h1.1, h1.2])]
          simp [hf, hq]
    · rw [if_neg h1, List.find?_cons_of_neg ?_]
      · exact ih
      · unfold opensB
        intro g
        simp only [Bool.and_eq_true, Bool.not_eq_true', beq_iff_eq] at g
        exact h1 ⟨g.1.1, g.1.2⟩
/-- where the first one that is not closed ahead of p is never closed, none is -/
theorem bf_none {o c : Int} (hoc : o ≠ c) {p : Pl} {R : List (Pl × Int)} (hR : scanB o c 1 R = none) : ∀ (X s : List (Pl × Int)), (∀ e ∈ X, aheadP e.1 p = true) → (∀ e ∈ s, aheadP e.1 p = true) → bfP o c p X (s ++ R) = none
  | [], s, _, _ => rfl
  | e :: X, s, hX, hs => by
    have ih := bf_none hoc hR X (e :: s) (fun x hx => hX x (by simp [hx])) (fun x hx => by
      rcases List.mem_cons.1 hx with h | h
      · rw [h]; exact hX e (by simp)
      · exact hs x h)
    rw [bfP]
    by_cases h1 : aheadP p e.1 = false ∧ e.2 = o
    · rw [if_pos h1]
      have h2 : scanB o c 0 (e :: (s ++ R)) = match scanB o c 0 (e :: s) with
          | some q => some q
          | none => scanB o c (0 + smB o c (e :: s)) R := scan_app o c (e :: s) R 0
      rw [h2]
      cases hq : scanB o c 0 (e :: s) with
      | some q =>
        simp only
        obtain ⟨r, hr⟩ := scan_mem hq
        have : aheadP q p = true := by
          rcases List.mem_cons.1 hr with h | h
          · have := hX e (by simp); rw [← h] at this; exact this
          · exact hs _ h
        rw [if_pos this]
        exact ih
      | none =>
        simp only
        rw [scan_cons, h1.2, wB_own hoc, if_neg (by omega)] at hq
        have h3 := scan_stay (by omega) hq
        rw [scan_up (j := 1) (by omega) (by rw [smB_cons, h1.2, wB_own hoc]; omega) hR]
        exact ih
    · rw [if_neg h1]
      exact ih
theorem bf_lone {o c : Int} (hoc : o ≠ c) {p : Pl} {R : List (Pl × Int)} (hRp : ∀ e ∈ R, aheadP e.1 p = false) : ∀ (X s : List (Pl × Int)) (n : Nat), (∀ e ∈ X, aheadP e.1 p = true) → (∀ e ∈ s, aheadP e.1 p = true) →
    (∀ t, t <:+ s → smB o c t ≤ 0) → (n : Int) = - smB o c s → bfP o c p X (s ++ R) = (loneP o c p X n).bind fun a => (scanB o c 1 R).map fun q => (a, q)
  | [], s, n, _, _, _, _ => rfl
  | (q, r) :: X, s, n, hX, hs, hc, hn => by
    have hq := hX (q, r) (by simp)
    simp only at hq
    have hX' : ∀ e ∈ X, aheadP e.1 p = true := fun x hx => hX x (by simp [hx])
    have hs' : ∀ e ∈ (q, r) :: s, aheadP e.1 p = true := fun x hx => by
      rcases List.mem_cons.1 hx with h | h
      · rw [h]; exact hq
      · exact hs x h
    have hne : q ≠ p := fun e => by rw [e, aheadP_irr] at hq; cases hq
    have step : ∀ m : Nat, (m : Int) = - smB o c ((q, r) :: s) → bfP o c p X ((q, r) :: s ++ R) = (loneP o c p X m).bind fun a => (scanB o c 1 R).map fun q => (a, q) := fun m hm =>
      bf_lone hoc hRp X ((q, r) :: s) m hX' hs' (fun t ht => by
        rcases List.suffix_cons_iff.1 ht with h | h
        · rw [h]; omega
        · exact hc t h) hm
    rw [bfP, loneP]
    simp only
    by_cases h1 : r = o
    · subst h1
      rw [if_pos ⟨aheadP_asym hq, rfl⟩, if_pos rfl]
      have h2 : scanB r c 0 ((q, r) :: (s ++ R)) = match scanB r c 0 ((q, r) :: s) with
          | some q => some q
          | none => scanB r c (0 + smB r c ((q, r) :: s)) R := scan_app r c ((q, r) :: s) R 0
      rw [h2]
      have h3 : scanB r c 0 ((q, r) :: s) = scanB r c 1 s := by rw [scan_cons]; simp only [wB_own hoc]; rw [if_neg (by omega)]; rfl
      have h4 : smB r c ((q, r) :: s) = 1 + smB r c s := by rw [smB_cons]; simp only [wB_own hoc]
      rw [h3, h4]
      by_cases hn0 : n = 0
      · rw [if_pos hn0]
        have h5 : smB r c s = 0 := by omega
        rw [scan_clear (fun t ht => by have := hc t ht; omega), h5]
        simp only [Option.bind_some]
        rw [show (0 : Int) + (1 + 0) = 1 by omega]
        cases hR : scanB r c 1 R with
        | none =>
          simp only [Option.map_none]
          have := bf_none hoc hR X ((q, r) :: s) hX' hs'
          exact this
        | some z =>
          simp only [Option.map_some]
          obtain ⟨y, hy⟩ := scan_mem hR
          have := hRp _ hy
          simp only at this
          rw [if_neg (by rw [this]; decide)]
      · rw [if_neg hn0]
        cases hz : scanB r c 1 s with
        | none => have := scan_stay (by omega) hz; omega
        | some z =>
          simp only
          obtain ⟨y, hy⟩ := scan_mem hz
          rw [if_pos (hs _ hy)]
          exact step (n - 1) (by rw [h4]; omega)
    · rw [if_neg (fun g => h1 g.2), if_neg h1]
      by_cases h2 : r = c
      · subst h2
        rw [if_pos ⟨rfl, hne⟩]
        exact step (n + 1) (by rw [smB_cons]; simp only [wB_oth hoc]; omega)
      · rw [if_neg (fun g => h2 g.1)]
        exact step n (by rw [smB_cons]; simp only [wB_not h1 h2]; omega)
theorem bf_skip {o c : Int} {p : Pl} : ∀ (Y X S : List (Pl × Int)), (∀ e ∈ Y, aheadP p e.1 = true) → bfP o c p (Y ++ X) S = bfP o c p X (Y.reverse ++ S)
  | [], X, S, _ => rfl
  | e :: Y, X, S, h => by
    have h1 := h e (by simp)
    rw [List.cons_append, bfP, if_neg (fun g => by rw [h1] at g; cases g.1), bf_skip Y X (e :: S) (fun x hx => h x (by simp [hx])), List.reverse_cons, List.append_assoc]
    rfl
theorem split_sorted {q : Pl × Int → Bool} : ∀ {A : List (Pl × Int)}, (A.Pairwise fun a b => q b = true → q a = true) → A = A.filter q ++ A.filter fun e => !q e
  | [], _ => rfl
  | e :: A, h => by
    obtain ⟨h1, h2⟩ := List.pairwise_cons.1 h
    have ih := split_sorted h2
    by_cases hq : q e = true
    · rw [List.filter_cons_of_pos hq, List.filter_cons_of_neg (by rw [hq]; decide), List.cons_append, ← ih]
    · have hn : A.filter q = [] := List.filter_eq_nil_iff.2 fun x hx g => hq (h1 x hx g)
      rw [List.filter_cons_of_neg hq, hn, List.nil_append, List.filter_cons_of_pos (by simpa using hq)]
      rw [hn, List.nil_append] at ih
      rw [← ih]
/-- THE PAIR IS WHAT THE TWO SIDES' NEAREST ONES ARE -/
theorem pair_lone {L : List (List Int)} {p : Pl} {o c : Int} (hoc : o ≠ c) : pairP L p o c = (loneP o c p (uptoP L p) 0).bind fun a => (loneP c o p (fromP L p) 0).map fun b => (a, b) := by
  have hsrt := runesP_sorted L
  unfold pairP
  rw [find_bf L o c p (runesP L).reverse [] (by simp)]
  by_cases hp : runeP L p
  · obtain ⟨r, hr⟩ : ∃ r, (lnL L p.1).getD p.2 0 = r := ⟨_, rfl⟩
    have hm : (p, r) ∈ runesP L := runesP_mem.2 ⟨hp, hr.symm⟩
    obtain ⟨s, hs1, hs2⟩ := List.mem_iff_getElem.1 hm
    have hs : (runesP L)[s]? = some (p, r) := List.getElem?_eq_some_iff.2 ⟨hs1, hs2⟩
    have hF := from_drop hs
    have hU := upto_take hs
    have hd : (runesP L).drop s = (p, r) :: (runesP L).drop (s + 1) := by rw [List.drop_eq_getElem_cons hs1, hs2]
    have ht : ((runesP L).take (s + 1)).reverse = (p, r) :: ((runesP L).take s).reverse := by
      rw [List.take_succ_eq_append_getElem hs1, hs2, List.reverse_append]; rfl
    obtain ⟨Af, hAf⟩ : ∃ Af, (runesP L).drop (s + 1) = Af := ⟨_, rfl⟩
    obtain ⟨Bf, hBf⟩ : ∃ Bf, ((runesP L).take s).reverse = Bf := ⟨_, rfl⟩
    have hall : (runesP L).reverse = Af.reverse ++ (p, r) :: Bf := by
      rw [← hAf, ← hBf, ← ht, ← List.reverse_append, List.take_append_drop]
    have hB : ∀ e ∈ Bf, aheadP e.1 p = true := fun e he => by
      rw [← hBf, List.mem_reverse] at he
      obtain ⟨i, hi1, hi2⟩ := List.mem_iff_getElem.1 he
      rw [List.length_take] at hi1
      have : (runesP L)[i]? = some e := by rw [← hi2, List.getElem_take]; exact List.getElem?_eq_getElem (by omega)
      exact rn_lt this hs (by omega)
    have hA : ∀ e ∈ Af, aheadP p e.1 = true := fun e he => by
      rw [← hAf] at he
      obtain ⟨i, hi1, hi2⟩ := List.mem_iff_getElem.1 he
      rw [List.length_drop] at hi1
      have : (runesP L)[s + 1 + i]? = some e := by rw [← hi2, List.getElem_drop]; exact List.getElem?_eq_getElem (by omega)
      exact rn_lt hs this (by omega)
    have hAne : ∀ e ∈ Af, e.1 ≠ p := fun e he g => by have := hA e he; rw [g, aheadP_irr] at this; cases this
    have hAn : ∀ e ∈ Af, aheadP e.1 p = false := fun e he => aheadP_asym (hA e he)
    have hPn : ∀ e ∈ (p, r) :: Af, aheadP e.1 p = false := fun e he => by
      rcases List.mem_cons.1 he with h | h
      · rw [h]; exact aheadP_irr p
      · exact hAn e h
    rw [hF, hU, hd, ht, hall, hAf, hBf, bf_skip _ _ _ (fun e he => hA e (List.mem_reverse.1 he)), List.reverse_reverse, List.append_nil, bfP, loneP, loneP]
    simp only
    have hlf := lone_scan hoc Af 0 hAne
    rw [show ((0 : Nat) : Int) + 1 = 1 by omega] at hlf
    by_cases h1 : r = o
    · subst h1
      rw [if_pos ⟨aheadP_irr p, rfl⟩, if_pos rfl, if_pos trivial, if_neg hoc, if_neg (fun g => g.2 rfl), hlf, scan_cons]
      simp only [wB_own hoc, Option.bind_some]
      rw [if_neg (by omega), show (0 : Int) + 1 = 1 by omega]
      cases hR : scanB r c 1 Af with
      | none =>
        simp only [Option.map_none]
        have h2 : scanB r c 1 ((p, r) :: Af) = none := by
          rw [scan_cons]
          simp only [wB_own hoc]
          rw [if_neg (by omega)]
          exact scan_up (j := 1) (by omega) (by omega) hR
        exact bf_none hoc h2 Bf [] hB (fun e he => by cases he)
      | some z =>
        simp only [Option.map_some]
        obtain ⟨y, hy⟩ := scan_mem hR
        have := hAn _ hy
        simp only at this
        rw [if_neg (by rw [this]; decide)]
    · have hbf := bf_lone hoc hPn Bf [] 0 hB (fun e he => by cases he) (fun t ht => by rw [List.suffix_nil.1 ht, smB_nil]; omega) (by rw [smB_nil]; rfl)
      rw [List.nil_append] at hbf
      rw [if_neg (fun g => h1 g.2), if_neg h1, hbf]
      by_cases h2 : r = c
      · subst h2
        rw [if_neg (fun g => g.2 rfl), if_pos rfl, if_pos trivial, scan_cons]
        simp only [wB_oth hoc]
        rw [if_pos (by omega)]
      · rw [if_neg (fun g => h2 g.1), if_neg h2, if_neg (fun g => h1 g.1), hlf, scan_cons]
        simp only [wB_not h1 h2]
        rw [if_neg (by omega), show (1 : Int) + 0 = 1 by omega]
  · have hfr : runesP L = (uptoP L p).reverse ++ fromP L p := by
      have h1 := split_sorted (q := fun e => aheadP e.1 p) (A := runesP L) (hsrt.imp fun {x y} h g => aheadP_trans h g)
      have h2 : (uptoP L p).reverse = (runesP L).filter fun e => aheadP e.1 p := by
        unfold uptoP
        rw [List.reverse_reverse]
        refine List.filter_congr fun x hx => ?_
        have hx1 := (runesP_mem.1 hx).1
        have hne : x.1 ≠ p := fun g => hp (g ▸ hx1)
        rw [Bool.eq_iff_iff]
        constructor
        · intro g
          rcases aheadP_tri x.1 p with h | h | h
          · exact h
          · exact absurd h hne
          · rw [h] at g; cases g
        · intro g
          rw [aheadP_asym g]; rfl
      rw [h2]
      exact h1
    have hB : ∀ e ∈ uptoP L p, aheadP e.1 p = true := fun e he => by
      unfold uptoP at he
      rw [List.mem_reverse] at he
      obtain ⟨he1, he2⟩ := List.mem_filter.1 he
      have hne : e.1 ≠ p := fun g => hp (g ▸ (runesP_mem.1 he1).1)
      rcases aheadP_tri e.1 p with h | h | h
      · exact h
      · exact absurd h hne
      · rw [h] at he2; cases he2
    have hFn : ∀ e ∈ fromP L p, aheadP e.1 p = false := fun e he => by
      unfold fromP at he
      simpa using (List.mem_filter.1 he).2
    have hFne : ∀ e ∈ fromP L p, e.1 ≠ p := fun e he g => by
      unfold fromP at he
      exact hp (g ▸ (runesP_mem.1 (List.mem_filter.1 he).1).1)
    have hFa : ∀ e ∈ (fromP L p).reverse, aheadP p e.1 = true := fun e he => by
      rw [List.mem_reverse] at he
      rcases aheadP_tri p e.1 with h | h | h
      · exact h
      · exact absurd h.symm (hFne e he)
      · rw [hFn e he] at h; cases h
    have hlf := lone_scan hoc (fromP L p) 0 hFne
    rw [show ((0 : Nat) : Int) + 1 = 1 by omega] at hlf
    have hbf := bf_lone hoc hFn (uptoP L p) [] 0 hB (fun e he => by cases he) (fun t ht => by rw [List.suffix_nil.1 ht, smB_nil]; omega) (by rw [smB_nil]; rfl)
    rw [List.nil_append] at hbf
    have hrev : (runesP L).reverse = (fromP L p).reverse ++ uptoP L p := by
      conv => lhs; rw [hfr]
      rw [List.reverse_append, List.reverse_reverse]
    rw [hrev, bf_skip _ _ _ hFa, List.reverse_reverse, List.append_nil, hlf, hbf]
end Go.Proofs.YthlhgkeodaifcaaDoor.U
