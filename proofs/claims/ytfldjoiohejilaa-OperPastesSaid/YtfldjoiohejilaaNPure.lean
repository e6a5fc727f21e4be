/-
  Words, paragraphs, sentences: cursor's places, and where things begin and end, as plain mathematics. No program here.
-/
import Derived.ProofKit
namespace Go.Proofs.Ytfldjoiohejilaa.U
set_option linter.unusedVariables false
set_option linter.unusedSimpArgs false

/-- a cursor's place: a line, a column -/
abbrev Pl := Nat × Nat
def wordR (c : Int) : Bool := decide (48 ≤ c ∧ c ≤ 57) || decide (65 ≤ c ∧ c ≤ 90) || decide (97 ≤ c ∧ c ≤ 122) || decide (c = 95) || decide (128 ≤ c)
def cls (big : Bool) (c : Int) : Int := if c = 32 ∨ c = 9 then 0 else if big = true ∨ wordR c = true then 1 else 2
def lnL (L : List (List Int)) (i : Nat) : List Int := L.getD i []
/-- the nearest of n numbers from 0 on; 0, if there are none -/
def clipN (n : Nat) (x : Int) : Nat := (max 0 (min x ((n : Int) - 1))).toNat
def clipP (L : List (List Int)) (a b : Int) : Pl := if L = [] then (0, 0) else (clipN L.length a, clipN (lnL L (clipN L.length a)).length b)
def rowPl (i : Nat) (x : List Int) : List Pl := if x = [] then [(i, 0)] else (List.range x.length).map fun k => (i, k)
def plFrom : Nat → List (List Int) → List Pl
  | _, [] => []
  | i, x :: L => rowPl i x ++ plFrom (i + 1) L
def places (L : List (List Int)) : List Pl := plFrom 0 L
def lastP (L : List (List Int)) : Pl := (places L).getLast?.getD (0, 0)
def aheadP (p q : Pl) : Bool := decide (p.1 < q.1) || (decide (p.1 = q.1) && decide (p.2 < q.2))
def begins (big : Bool) (x : List Int) (k : Nat) : Bool :=
  if x = [] then true else (cls big (x.getD k 0) != 0) && (decide (k = 0) || (cls big (x.getD (k - 1) 0) != cls big (x.getD k 0)))
def ends (big : Bool) (x : List Int) (k : Nat) : Bool :=
  if x = [] then false else (cls big (x.getD k 0) != 0) && (decide (k + 1 = x.length) || (cls big (x.getD (k + 1) 0) != cls big (x.getD k 0)))
def blankL (x : List Int) : Bool := x.all fun c => cls false c == 0
def closer (c : Int) : Bool := decide (c = 41) || decide (c = 93) || decide (c = 34) || decide (c = 39)
def stopper (c : Int) : Bool := decide (c = 46) || decide (c = 33) || decide (c = 63)
/-- a sentence's end stands ahead of a column -/
def stopB (x : List Int) : Nat → Bool
  | 0 => false
  | k + 1 => if closer (x.getD k 0) then stopB x k else stopper (x.getD k 0)
/-- the first column of the blanks ahead of a column -/
def backB (x : List Int) : Nat → Nat
  | 0 => 0
  | k + 1 => if cls false (x.getD k 0) = 0 then backB x k else k + 1
def sentB (L : List (List Int)) (i k : Nat) : Bool :=
  if lnL L i = [] then decide (0 < i) && decide (0 < (lnL L (i - 1)).length)
  else if cls false ((lnL L i).getD k 0) = 0 then false
  else if 0 < backB (lnL L i) k then decide (backB (lnL L i) k < k) && stopB (lnL L i) (backB (lnL L i) k)
  else if i = 0 ∨ blankL (lnL L (i - 1)) = true then true
  else stopB (lnL L (i - 1)) (backB (lnL L (i - 1)) (lnL L (i - 1)).length)
/-- a place of a kind: 0, 1: a word begins; 2, 3: it ends; 4, 5: a paragraph ends, begins; 6: a sentence begins -/
def isK (L : List (List Int)) (kd : Int) (p : Pl) : Bool :=
  if kd = 0 ∨ kd = 1 then begins (kd == 1) (lnL L p.1) p.2
  else if kd = 2 ∨ kd = 3 then ends (kd == 3) (lnL L p.1) p.2
  else if kd = 4 then decide ((lnL L p.1).length = 0) && decide (0 < p.1) && decide (0 < (lnL L (p.1 - 1)).length)
  else if kd = 5 then decide ((lnL L p.1).length = 0) && decide (p.1 + 1 < L.length) && decide (0 < (lnL L (p.1 + 1)).length)
  else sentB L p.1 p.2
def behindP (L : List (List Int)) (kd : Int) (p : Pl) : Pl := ((places L).find? fun x => aheadP p x && isK L kd x).getD (lastP L)
def beforeP (L : List (List Int)) (kd : Int) (p : Pl) : Pl := ((places L).reverse.find? fun x => aheadP x p && isK L kd x).getD (0, 0)

-- chapter 9's examples
def ex9A : List (List Int) := [[97, 46, 98, 32, 99]]
def ex9B : List (List Int) := [[97, 98], [], [99]]
def ex9C : List (List Int) := [[65, 46, 32, 66]]
theorem ex9_1 : behindP ex9A 0 (0, 0) = (0, 1) := by decide
theorem ex9_2 : behindP ex9A 1 (0, 0) = (0, 4) := by decide
theorem ex9_3 : behindP ex9B 0 (0, 0) = (1, 0) := by decide
theorem ex9_4 : behindP ex9B 4 (0, 0) = (1, 0) := by decide
theorem ex9_5 : behindP ex9C 6 (0, 0) = (0, 3) := by decide

-- order
theorem aheadP_iff {p q : Pl} : aheadP p q = true ↔ p.1 < q.1 ∨ (p.1 = q.1 ∧ p.2 < q.2) := by simp [aheadP]
theorem aheadP_irr (p : Pl) : aheadP p p = false := by
  cases h : aheadP p p with
  | false => rfl
  | true => rw [aheadP_iff] at h; omega
theorem aheadP_asym {p q : Pl} (h : aheadP p q = true) : aheadP q p = false := by
  cases k : aheadP q p with
  | false => rfl
  | true => rw [aheadP_iff] at h k; omega
theorem aheadP_total {p q : Pl} (h : aheadP p q = false) (k : p ≠ q) : aheadP q p = true := by
  rw [aheadP_iff]
  by_cases h1 : aheadP q p = true
  · rwa [aheadP_iff] at h1
  · have h2 : ¬ (p.1 < q.1 ∨ (p.1 = q.1 ∧ p.2 < q.2)) := by rw [← aheadP_iff, h]; simp
    have h3 : ¬ (q.1 < p.1 ∨ (q.1 = p.1 ∧ q.2 < p.2)) := by rw [← aheadP_iff]; exact h1
    exact absurd (Prod.ext (by omega) (by omega)) k
/-- it is a cursor's place -/
def okP (L : List (List Int)) (p : Pl) : Prop := p.1 < L.length ∧ p.2 ≤ (lnL L p.1).length - 1
theorem rowPl_mem {i : Nat} {x : List Int} {p : Pl} : p ∈ rowPl i x ↔ p.1 = i ∧ p.2 ≤ x.length - 1 := by
  unfold rowPl
  by_cases hx : x = []
  · rw [if_pos hx]; subst hx
    simp only [List.mem_singleton, List.length_nil]
    constructor
    · rintro rfl; exact ⟨rfl, by simp⟩
    · rintro ⟨h1, h2⟩; exact Prod.ext h1 (by simp at h2 ⊢; omega)
  · rw [if_neg hx]
    have hl : 0 < x.length := List.length_pos_iff.2 hx
    simp only [List.mem_map, List.mem_range]
    constructor
    · rintro ⟨k, hk, rfl⟩; exact ⟨rfl, by simp; omega⟩
    · rintro ⟨h1, h2⟩; exact ⟨p.2, by omega, Prod.ext h1.symm rfl⟩
theorem plFrom_mem {p : Pl} : ∀ (L : List (List Int)) (i : Nat), p ∈ plFrom i L ↔ i ≤ p.1 ∧ p.1 < i + L.length ∧ p.2 ≤ (lnL L (p.1 - i)).length - 1
  | [], i => by simp [plFrom]; omega
  | x :: L, i => by
    rw [plFrom, List.mem_append, rowPl_mem, plFrom_mem L (i + 1)]
    constructor
    · rintro (⟨h1, h2⟩ | ⟨h1, h2, h3⟩)
      · refine ⟨by omega, by simp; omega, ?_⟩
        rw [show p.1 - i = 0 by omega]; exact h2
      · refine ⟨by omega, by simp at h2 ⊢; omega, ?_⟩
        rw [show p.1 - i = (p.1 - (i + 1)) + 1 by omega]; exact h3
    · rintro ⟨h1, h2, h3⟩
      by_cases h : p.1 = i
      · left
        rw [show p.1 - i = 0 by omega] at h3
        exact ⟨h, h3⟩
      · right
        refine ⟨by omega, by simp at h2; omega, ?_⟩
        rw [show p.1 - i = (p.1 - (i + 1)) + 1 by omega] at h3; exact h3
theorem places_mem {L : List (List Int)} {p : Pl} : p ∈ places L ↔ okP L p := by
  unfold places okP
  rw [plFrom_mem]
  simp
theorem rowPl_sorted (i : Nat) (x : List Int) : (rowPl i x).Pairwise fun p q => aheadP p q = true := by
  unfold rowPl
  by_cases hx : x = []
  · rw [if_pos hx]; simp
  · rw [if_neg hx, List.pairwise_map]
    refine List.Pairwise.imp ?_ (List.pairwise_lt_range (n := x.length))
    intro a b h
    rw [aheadP_iff]; exact Or.inr ⟨rfl, h⟩
theorem plFrom_sorted : ∀ (L : List (List Int)) (i : Nat), (plFrom i L).Pairwise fun p q => aheadP p q = true
  | [], i => by simp [plFrom]
  | x :: L, i => by
    rw [plFrom, List.pairwise_append]
    refine ⟨rowPl_sorted i x, plFrom_sorted L (i + 1), fun a ha b hb => ?_⟩
    rw [rowPl_mem] at ha
    rw [plFrom_mem] at hb
    rw [aheadP_iff]; left; omega
theorem places_sorted (L : List (List Int)) : (places L).Pairwise fun p q => aheadP p q = true := plFrom_sorted L 0
theorem places_cons {x : List Int} {L : List (List Int)} : ∃ T, places (x :: L) = (0, 0) :: T := by
  unfold places
  rw [plFrom, rowPl]
  by_cases hx : x = []
  · rw [if_pos hx]; exact ⟨_, rfl⟩
  · rw [if_neg hx]
    obtain ⟨n, hn⟩ : ∃ n, x.length = n + 1 := ⟨x.length - 1, by have := List.length_pos_iff.2 hx; omega⟩
    rw [hn, List.range_succ_eq_map]
    exact ⟨_, rfl⟩
theorem places_ne {L : List (List Int)} (h : L ≠ []) : ∃ T, places L = (0, 0) :: T := by
  cases L with
  | nil => exact absurd rfl h
  | cons x L => exact places_cons
theorem lastP_mem {L : List (List Int)} (h : L ≠ []) : lastP L ∈ places L := by
  obtain ⟨T, hT⟩ := places_ne h
  unfold lastP
  rw [hT, List.getLast?_eq_some_getLast (by simp)]
  exact List.getLast_mem _
theorem lastP_max {L : List (List Int)} (h : L ≠ []) {p : Pl} (hp : p ∈ places L) : aheadP (lastP L) p = false := by
  obtain ⟨T, hT⟩ := places_ne h
  have hs := places_sorted L
  have hne : places L ≠ [] := by rw [hT]; simp
  unfold lastP
  rw [List.getLast?_eq_some_getLast hne]
  simp only [Option.getD_some]
  have hd := List.dropLast_concat_getLast hne
  rw [← hd] at hp hs
  rw [List.pairwise_append] at hs
  rcases List.mem_append.1 hp with hp | hp
  · exact aheadP_asym (hs.2.2 p hp _ (by simp))
  · simp only [List.mem_singleton] at hp
    rw [hp]; exact aheadP_irr _
theorem first_min {L : List (List Int)} {p : Pl} (hp : p ∈ places L) : aheadP p (0, 0) = false := by
  cases h : aheadP p (0, 0) with
  | false => rfl
  | true => rw [aheadP_iff] at h; simp at h

-- clipping
theorem clipN_lt {n : Nat} (x : Int) (h : 0 < n) : clipN n x < n := by unfold clipN; omega
theorem clipN_le (n : Nat) (x : Int) : clipN n x ≤ n - 1 := by unfold clipN; omega
theorem clipN_id {n k : Nat} (h : k ≤ n - 1) : clipN n (k : Int) = k := by unfold clipN; omega
theorem clipP_ok {L : List (List Int)} (h : L ≠ []) (a b : Int) : okP L (clipP L a b) := by
  unfold clipP
  rw [if_neg h]
  exact ⟨clipN_lt a (List.length_pos_iff.2 h), clipN_le _ _⟩
theorem clipP_id {L : List (List Int)} {p : Pl} (h : okP L p) : clipP L (p.1 : Int) (p.2 : Int) = p := by
  obtain ⟨h1, h2⟩ := h
  unfold clipP
  rw [if_neg (by rintro rfl; simp at h1), clipN_id (by omega), clipN_id h2]
theorem clipP_mem {L : List (List Int)} (h : L ≠ []) (a b : Int) : clipP L a b ∈ places L := places_mem.2 (clipP_ok h a b)

-- what is sought lies on
theorem behindP_mem {L : List (List Int)} (h : L ≠ []) (kd : Int) (p : Pl) : behindP L kd p ∈ places L := by
  unfold behindP
  cases hf : (places L).find? fun x => aheadP p x && isK L kd x with
  | none => exact lastP_mem h
  | some q => exact List.mem_of_find?_eq_some hf
theorem behindP_on {L : List (List Int)} (kd : Int) (p : Pl) : aheadP p (behindP L kd p) = true ∨ behindP L kd p = lastP L := by
  unfold behindP
  cases hf : (places L).find? fun x => aheadP p x && isK L kd x with
  | none => exact Or.inr rfl
  | some q =>
    have := List.find?_some hf
    rw [Bool.and_eq_true] at this
    exact Or.inl this.1
theorem beforeP_mem {L : List (List Int)} (h : L ≠ []) (kd : Int) (p : Pl) : beforeP L kd p ∈ places L := by
  unfold beforeP
  cases hf : (places L).reverse.find? fun x => aheadP x p && isK L kd x with
  | none => obtain ⟨T, hT⟩ := places_ne h; rw [hT]; simp
  | some q => have := List.mem_of_find?_eq_some hf; simpa using this
theorem beforeP_on {L : List (List Int)} (kd : Int) (p : Pl) : aheadP (beforeP L kd p) p = true ∨ beforeP L kd p = (0, 0) := by
  unfold beforeP
  cases hf : (places L).reverse.find? fun x => aheadP x p && isK L kd x with
  | none => exact Or.inr rfl
  | some q =>
    have := List.find?_some hf
    rw [Bool.and_eq_true] at this
    exact Or.inl this.1

-- walks
/-- the places of a kind, but the first place -/
def wantP (L : List (List Int)) (kd : Int) : List Pl := (places L).tail.filter (isK L kd)
theorem wantP_sub {L : List (List Int)} {kd : Int} {p : Pl} (h : p ∈ wantP L kd) : p ∈ places L := List.mem_of_mem_tail (List.mem_filter.1 h).1
theorem wantP_sorted (L : List (List Int)) (kd : Int) : (wantP L kd).Pairwise fun p q => aheadP p q = true :=
  ((places_sorted L).sublist (List.tail_sublist _)).sublist List.filter_sublist
theorem cut_at {W : List Pl} {i : Nat} (hi : i < W.length) : W = W.take i ++ W[i] :: W.drop (i + 1) := by
  rw [List.getElem_cons_drop, List.take_append_drop]
theorem sorted_behind {W : List Pl} (hs : W.Pairwise fun p q => aheadP p q = true) {i : Nat} (hi : i < W.length) : W.filter (fun x => aheadP W[i] x) = W.drop (i + 1) := by
  obtain ⟨q, hq⟩ : ∃ q, W[i] = q := ⟨_, rfl⟩
  have hc := cut_at hi
  rw [hq] at hc ⊢
  rw [hc, List.pairwise_append, List.pairwise_cons] at hs
  have hd : W.drop (i + 1) = W.drop (i + 1) := rfl
  conv => lhs; rw [hc]
  rw [List.filter_append, List.filter_cons, aheadP_irr]
  have h1 : (W.take i).filter (fun x => aheadP q x) = [] := by
    rw [List.filter_eq_nil_iff]
    intro a ha
    rw [aheadP_asym (hs.2.2 a ha q (by simp))]; simp
  have h2 : (W.drop (i + 1)).filter (fun x => aheadP q x) = W.drop (i + 1) := by
    rw [List.filter_eq_self]
    exact fun a ha => hs.2.1.1 a ha
  rw [h1, h2]; simp
theorem sorted_before {W : List Pl} (hs : W.Pairwise fun p q => aheadP p q = true) {i : Nat} (hi : i < W.length) : W.filter (fun x => aheadP x W[i]) = W.take i := by
  obtain ⟨q, hq⟩ : ∃ q, W[i] = q := ⟨_, rfl⟩
  have hc := cut_at hi
  rw [hq] at hc ⊢
  rw [hc, List.pairwise_append, List.pairwise_cons] at hs
  conv => lhs; rw [hc]
  rw [List.filter_append, List.filter_cons, aheadP_irr]
  have h1 : (W.take i).filter (fun x => aheadP x q) = W.take i := by
    rw [List.filter_eq_self]
    exact fun a ha => hs.2.2 a ha q (by simp)
  have h2 : (W.drop (i + 1)).filter (fun x => aheadP x q) = [] := by
    rw [List.filter_eq_nil_iff]
    intro a ha
    rw [aheadP_asym (hs.2.1.1 a ha)]; simp
  rw [h1, h2]; simp
theorem filter_and {α : Type} (f g : α → Bool) (l : List α) : l.filter (fun x => f x && g x) = (l.filter g).filter f := by
  rw [List.filter_filter]
theorem behind_eq {L : List (List Int)} (h : L ≠ []) (kd : Int) {p : Pl} (hp : p ∈ places L) : behindP L kd p = (((wantP L kd).filter fun x => aheadP p x).head?).getD (lastP L) := by
  unfold behindP wantP
  rw [← List.head?_filter, filter_and]
  obtain ⟨T, hT⟩ := places_ne h
  have h0 := first_min hp
  rw [hT, List.tail_cons, List.filter_cons]
  split
  · rw [List.filter_cons, h0]; simp
  · rfl
theorem before_eq {L : List (List Int)} (h : L ≠ []) (kd : Int) (p : Pl) : beforeP L kd p = (((wantP L kd).filter fun x => aheadP x p).getLast?).getD (0, 0) := by
  unfold beforeP wantP
  rw [← List.head?_filter, List.filter_reverse, List.head?_reverse, filter_and]
  obtain ⟨T, hT⟩ := places_ne h
  rw [hT, List.tail_cons, List.filter_cons]
  split
  · rw [List.filter_cons]
    split
    · rw [List.getLast?_cons]
      cases h2 : (List.filter (fun x => aheadP x p) (List.filter (isK L kd) T)).getLast? <;> simp
    · rfl
  · rfl
/-- on the way forth: i words were come to -/
def Forth (L : List (List Int)) (kd : Int) (i : Nat) (p : Pl) : Prop := p ∈ places L ∧ (wantP L kd).filter (fun x => aheadP p x) = (wantP L kd).drop i
theorem Forth.start {L : List (List Int)} (h : L ≠ []) (kd : Int) : Forth L kd 0 (0, 0) := by
  obtain ⟨T, hT⟩ := places_ne h
  refine ⟨by rw [hT]; simp, ?_⟩
  rw [List.drop_zero, List.filter_eq_self]
  intro a ha
  have hs := places_sorted L
  unfold wantP at ha
  rw [hT] at ha hs
  rw [List.pairwise_cons] at hs
  exact hs.1 a (List.mem_filter.1 ha).1
theorem Forth.step {L : List (List Int)} (h : L ≠ []) {kd : Int} {i : Nat} {p : Pl} (hf : Forth L kd i p) (hi : i < (wantP L kd).length) : behindP L kd p = (wantP L kd)[i] ∧ Forth L kd (i + 1) (wantP L kd)[i] := by
  refine ⟨?_, wantP_sub (List.getElem_mem hi), sorted_behind (wantP_sorted L kd) hi⟩
  rw [behind_eq h kd hf.1, hf.2, List.head?_drop, List.getElem?_eq_getElem hi]; rfl
theorem Forth.done {L : List (List Int)} (h : L ≠ []) {kd : Int} {p : Pl} (hf : Forth L kd (wantP L kd).length p) : behindP L kd p = lastP L := by
  rw [behind_eq h kd hf.1, hf.2, List.drop_length]; rfl
/-- on the way back: i words are left -/
def Back (L : List (List Int)) (kd : Int) (i : Nat) (p : Pl) : Prop := p ∈ places L ∧ (wantP L kd).filter (fun x => aheadP x p) = ((wantP L kd).take i).filter (fun x => decide (x ≠ lastP L))
theorem Back.start {L : List (List Int)} (h : L ≠ []) (kd : Int) : Back L kd (wantP L kd).length (lastP L) := by
  refine ⟨lastP_mem h, ?_⟩
  rw [List.take_length]
  apply List.filter_congr
  intro a ha
  by_cases e : a = lastP L
  · rw [e, aheadP_irr]; simp
  · rw [aheadP_total (lastP_max h (wantP_sub ha)) (fun h => e h.symm)]; simp [e]
theorem Back.skip {L : List (List Int)} {kd : Int} {i : Nat} {p : Pl} (hb : Back L kd (i + 1) p) (hi : i < (wantP L kd).length) (e : (wantP L kd)[i] = lastP L) : Back L kd i p := by
  refine ⟨hb.1, hb.2.trans ?_⟩
  rw [List.take_succ_eq_append_getElem hi, List.filter_append, e]
  simp
theorem Back.step {L : List (List Int)} (h : L ≠ []) {kd : Int} {i : Nat} {p : Pl} (hb : Back L kd (i + 1) p) (hi : i < (wantP L kd).length) (e : (wantP L kd)[i] ≠ lastP L) : beforeP L kd p = (wantP L kd)[i] ∧ Back L kd i (wantP L kd)[i] := by
  refine ⟨?_, wantP_sub (List.getElem_mem hi), ?_⟩
  · rw [before_eq h kd, hb.2, List.take_succ_eq_append_getElem hi, List.filter_append]
    simp [e]
  · rw [sorted_before (wantP_sorted L kd) hi, eq_comm, List.filter_eq_self]
    intro a ha
    have hs := wantP_sorted L kd
    have hc := cut_at hi
    obtain ⟨q, hq⟩ : ∃ q, (wantP L kd)[i] = q := ⟨_, rfl⟩
    have hqm : q ∈ places L := by rw [← hq]; exact wantP_sub (List.getElem_mem hi)
    rw [hq] at hc
    rw [hc, List.pairwise_append] at hs
    have h1 := hs.2.2 a ha q (by simp)
    simp only [ne_eq, decide_not, Bool.not_eq_eq_eq_not, Bool.not_true, decide_eq_false_iff_not]
    rintro rfl
    rw [lastP_max h hqm] at h1
    cases h1
theorem Back.done {L : List (List Int)} (h : L ≠ []) {kd : Int} {p : Pl} (hb : Back L kd 0 p) : beforeP L kd p = (0, 0) := by
  rw [before_eq h kd, hb.2]; rfl
end Go.Proofs.Ytfldjoiohejilaa.U
