/-
  Patterns as plain data: the parts, how they are read from a list of runes, how large they are, how many groups they have. No program here.
-/
import Derived.ProofKit
namespace Go.Proofs.Ytkjiobbkbhmijaa.U
set_option linter.unusedVariables false
set_option linter.unusedSimpArgs false

inductive Re where
  | mk (k r : Int) (st : List (Int × Int)) (nt : Bool) (lo hi : Int) (ps : List Re)

namespace Re
def one (k : Int) : Re := .mk k 0 [] false 0 0 []
def rune (c : Int) : Re := .mk 1 c [] false 0 0 []
def star (x : Re) (lo hi : Int) : Re := .mk 10 0 [] false lo hi [x]
def grp (x : Re) (n : Nat) : Re := .mk 11 0 [] false n 0 [x]
end Re
/-- several parts as one -/
def joinR (k : Int) : List Re → Re
  | [] => Re.one 0
  | [x] => x
  | x :: y :: xs => .mk k 0 [] false 0 0 (x :: y :: xs)
def tms (lo hi : Int) : Nat := (max 1 (max lo hi)).toNat
mutual
def Re.sz : Re → Nat
  | .mk k _ _ _ lo hi ps => 1 + szs ps * (if k = 10 then tms lo hi else 1)
def szs : List Re → Nat
  | [] => 0
  | x :: xs => x.sz + szs xs
end
mutual
def Re.cnt : Re → Nat
  | .mk k _ _ _ _ _ ps => (if k = 11 then 1 else 0) + cnts ps
def cnts : List Re → Nat
  | [] => 0
  | x :: xs => x.cnt + cnts xs
end

abbrev Rs (α : Type) := Except Int α
/-- these runes are next -/
def pre (s l : List Int) : Bool := s.isPrefixOf l
def dig (c : Int) : Bool := decide (48 ≤ c ∧ c ≤ 57)
def hasD : List Int → Bool
  | [] => false
  | c :: _ => dig c
def num : Int → List Int → Int × List Int
  | a, [] => (a, [])
  | a, c :: l => if dig c then num (min (a * 10 + (c - 48)) 101) l else (a, c :: l)
/-- the second count, and what is behind it -/
def second (q : Int × List Int) : Int × List Int :=
  if pre [44] q.2 then (if hasD (q.2.drop 1) then num 0 (q.2.drop 1) else (-1, q.2.drop 1)) else q
def badT (lo hi : Int) : Bool := decide (100 < max lo hi) || (decide (0 ≤ hi) && decide (hi < lo))
def counts (l : List Int) : Rs (Int × Int × List Int) :=
  if hasD l = false then .error 11
  else if badT (num 0 l).1 (second (num 0 l)).1 then .error 11
  else if pre [92, 125] (second (num 0 l)).2 then .ok ((num 0 l).1, (second (num 0 l)).1, (second (num 0 l)).2.drop 2) else .error 10
def reps : Nat → Re → List Int → Rs (Re × List Int)
  | 0, _, _ => .error 0
  | f + 1, x, l =>
    if pre [42] l then reps f (x.star 0 (-1)) (l.drop 1)
    else if pre [92, 123] l then
      match counts (l.drop 2) with
      | .error e => .error e
      | .ok (lo, hi, l') => reps f (x.star lo hi) l'
    else .ok (x, l)
/-- behind an item's first rune: - and a rune that ends no set -/
def isRange (l : List Int) : Bool := decide (2 ≤ l.length) && (l.getD 0 0 == 45) && !(l.getD 1 0 == 93)
def items : Nat → List (Int × Int) → List Int → Rs (List (Int × Int) × List Int)
  | 0, _, _ => .error 10
  | f + 1, acc, l =>
    if !acc.isEmpty && pre [93] l then .ok (acc, l.drop 1)
    else
      match l with
      | [] => .error 10
      | c :: l1 => if isRange l1 then items f (acc ++ [(c, l1.getD 1 0)]) (l1.drop 2) else items f (acc ++ [(c, c)]) l1
def isDown (st : List (Int × Int)) : Bool := st.any (fun s => decide (s.2 < s.1))
def setB (nt : Bool) (l : List Int) : Rs (Re × List Int) :=
  match items (l.length + 1) [] l with
  | .error e => .error e
  | .ok (st, l') => if isDown st then .error 5 else .ok (.mk 3 0 st nt 0 0 [], l')
def setR (l : List Int) : Rs (Re × List Int) := if pre [94] l then setB true (l.drop 1) else setB false l
def ended (l : List Int) : Bool := l.isEmpty || pre [92, 124] l || pre [92, 41] l

abbrev Rec := List Int → Nat → Nat → Rs (Re × List Int × Nat)
def grpR (rec : Rec) (l : List Int) (n o : Nat) : Rs (Re × List Int × Nat) :=
  if o = 16 then .error 12
  else
    match rec l (n + 1) (o + 1) with
    | .error e => .error e
    | .ok (x, l', n') => if pre [92, 41] l' then .ok (x.grp (n + 1), l'.drop 2, n') else .error 10
def escR (rec : Rec) (l : List Int) (n o : Nat) : Rs (Re × List Int × Nat) :=
  match l with
  | [] => .error 5
  | c :: l =>
    if c = 40 then grpR rec l n o
    else if c = 60 then .ok (Re.one 6, l, n)
    else if c = 62 then .ok (Re.one 7, l, n)
    else if c = 123 then .error 11
    else if c = 125 then .error 10
    else .ok (Re.rune c, l, n)
def setN (l : List Int) (n : Nat) : Rs (Re × List Int × Nat) :=
  match setR l with
  | .error e => .error e
  | .ok (x, l') => .ok (x, l', n)
def atomR (rec : Rec) (l : List Int) (n o : Nat) : Rs (Re × List Int × Nat) :=
  match l with
  | [] => .error 0
  | c :: l =>
    if c = 46 then .ok (Re.one 2, l, n)
    else if c = 91 then setN l n
    else if c = 36 ∧ ended l = true then .ok (Re.one 5, l, n)
    else if c = 92 then escR rec l n o
    else .ok (Re.rune c, l, n)
def pcsR (rec : Rec) (o : Nat) : Nat → List Re → List Int → Nat → Rs (List Re × List Int × Nat)
  | 0, _, _, _ => .error 0
  | f + 1, acc, l, n =>
    if ended l then .ok (acc, l, n)
    else
      match atomR rec l n o with
      | .error e => .error e
      | .ok (x, l1, n1) =>
        match reps (l1.length + 1) x l1 with
        | .error e => .error e
        | .ok (y, l2) => pcsR rec o f (acc ++ [y]) l2 n1
def pcs0 (rec : Rec) (l : List Int) (n o : Nat) : Rs (List Re × List Int × Nat) :=
  if pre [94] l then pcsR rec o (l.length + 1) [Re.one 4] (l.drop 1) n else pcsR rec o (l.length + 1) [] l n
def altR (rec : Rec) (l : List Int) (n o : Nat) : Rs (Re × List Int × Nat) :=
  match pcs0 rec l n o with
  | .error e => .error e
  | .ok (xs, l', n') => .ok (joinR 8 xs, l', n')
def altsL (rec : Rec) (o : Nat) : Nat → List Re → List Int → Nat → Rs (List Re × List Int × Nat)
  | 0, _, _, _ => .error 0
  | f + 1, acc, l, n =>
    if pre [92, 124] l then
      match altR rec (l.drop 2) n o with
      | .error e => .error e
      | .ok (x, l', n') => altsL rec o f (acc ++ [x]) l' n'
    else .ok (acc, l, n)
def alts0 (rec : Rec) (l : List Int) (n o : Nat) : Rs (List Re × List Int × Nat) :=
  match altR rec l n o with
  | .error e => .error e
  | .ok (x, l', n') => altsL rec o (l'.length + 1) [x] l' n'
def altsR (rec : Rec) (l : List Int) (n o : Nat) : Rs (Re × List Int × Nat) :=
  match alts0 rec l n o with
  | .error e => .error e
  | .ok (xs, l', n') => .ok (joinR 9 xs, l', n')
def alts : Nat → Rec
  | 0 => fun _ _ _ => .error 0
  | d + 1 => altsR (alts d)
/-- a pattern's part and its number of groups, or its error -/
def parse (p : List Int) : Rs (Re × Nat) :=
  match alts 17 p 0 0 with
  | .error e => .error e
  | .ok (x, l, n) => if 0 < l.length then .error 10 else if 400 < x.sz then .error 12 else .ok (x, n)

-- chapter 7's examples
def exA : List Int := [97, 98, 42]
def exB : List Int := [92, 40, 97, 92, 124, 98, 92, 41, 36]
def exC : List Int := [97, 92, 123, 50]
def exD : List Int := [92, 123, 50, 92, 125]
theorem parse_exA : parse exA = .ok (.mk 8 0 [] false 0 0 [Re.rune 97, (Re.rune 98).star 0 (-1)], 0) := by rfl
theorem parse_exB : parse exB = .ok (.mk 8 0 [] false 0 0 [(Re.mk 9 0 [] false 0 0 [Re.rune 97, Re.rune 98]).grp 1, Re.one 5], 1) := by rfl
theorem parse_exC : parse exC = .error 10 := by rfl
theorem parse_exD : parse exD = .error 11 := by rfl

-- what is left is a piece of what was there
theorem pre_drop {s l : List Int} (h : pre s l = true) : l = s ++ l.drop s.length := by
  unfold pre at h
  rw [List.isPrefixOf_iff_prefix] at h
  obtain ⟨t, rfl⟩ := h
  simp
theorem pre_len {s l : List Int} (h : pre s l = true) : s.length ≤ l.length := by
  have := congrArg List.length (pre_drop h); rw [List.length_append] at this; omega
theorem num_suffix : ∀ (l : List Int) (a : Int), (num a l).2 <:+ l
  | [], a => List.suffix_refl _
  | c :: l, a => by
    unfold num
    split
    · exact (num_suffix l _).trans (List.suffix_cons _ _)
    · exact List.suffix_refl _
theorem second_suffix (q : Int × List Int) : (second q).2 <:+ q.2 := by
  unfold second
  split
  · split
    · exact (num_suffix _ _).trans (List.drop_suffix _ _)
    · exact List.drop_suffix _ _
  · exact List.suffix_refl _
theorem counts_suffix {l l' : List Int} {lo hi : Int} (h : counts l = .ok (lo, hi, l')) : l' <:+ l := by
  unfold counts at h
  split at h
  · cases h
  split at h
  · cases h
  split at h
  · simp only [Except.ok.injEq, Prod.mk.injEq] at h
    obtain ⟨_, _, rfl⟩ := h
    exact ((List.drop_suffix _ _).trans (second_suffix _)).trans (num_suffix _ _)
  · cases h
theorem reps_suffix : ∀ (f : Nat) (x : Re) (l : List Int) {y : Re} {l' : List Int}, reps f x l = .ok (y, l') → l' <:+ l
  | 0, x, l, y, l', h => by cases h
  | f + 1, x, l, y, l', h => by
    unfold reps at h
    split at h
    · exact (reps_suffix f _ _ h).trans (List.drop_suffix _ _)
    split at h
    · split at h
      · cases h
      · rename_i lo hi l1 hc
        exact ((reps_suffix f _ _ h).trans (counts_suffix hc)).trans (List.drop_suffix _ _)
    · simp only [Except.ok.injEq, Prod.mk.injEq] at h
      rw [h.2]
      exact List.suffix_refl _
theorem items_suffix : ∀ (f : Nat) (acc : List (Int × Int)) (l : List Int) {st : List (Int × Int)} {l' : List Int}, items f acc l = .ok (st, l') → l' <:+ l
  | 0, acc, l, st, l', h => by cases h
  | f + 1, acc, l, st, l', h => by
    unfold items at h
    split at h
    · simp only [Except.ok.injEq, Prod.mk.injEq] at h
      rw [← h.2]
      exact List.drop_suffix _ _
    · split at h
      · cases h
      · split at h
        · exact ((items_suffix f _ _ h).trans (List.drop_suffix _ _)).trans (List.suffix_cons _ _)
        · exact (items_suffix f _ _ h).trans (List.suffix_cons _ _)
theorem setB_suffix {b : Bool} {l l' : List Int} {x : Re} (h : setB b l = .ok (x, l')) : l' <:+ l := by
  unfold setB at h
  split at h
  · cases h
  · rename_i st l1 hi
    split at h
    · cases h
    · simp only [Except.ok.injEq, Prod.mk.injEq] at h
      rw [← h.2]
      exact items_suffix _ _ _ hi
theorem setR_suffix {l l' : List Int} {x : Re} (h : setR l = .ok (x, l')) : l' <:+ l := by
  unfold setR at h
  split at h
  · exact (setB_suffix h).trans (List.drop_suffix _ _)
  · exact setB_suffix h

def RecS (rec : Rec) : Prop := ∀ l n o x l' n', rec l n o = .ok (x, l', n') → l' <:+ l
theorem grpR_suffix {rec : Rec} (hr : RecS rec) {l l' : List Int} {n n' o : Nat} {x : Re} (h : grpR rec l n o = .ok (x, l', n')) : l' <:+ l := by
  unfold grpR at h
  split at h
  · cases h
  split at h
  · cases h
  · rename_i x1 l1 n1 h1
    split at h
    · simp only [Except.ok.injEq, Prod.mk.injEq] at h
      rw [← h.2.1]
      exact (List.drop_suffix _ _).trans (hr _ _ _ _ _ _ h1)
    · cases h
theorem escR_suffix {rec : Rec} (hr : RecS rec) {l l' : List Int} {n n' o : Nat} {x : Re} (h : escR rec l n o = .ok (x, l', n')) : l' <:+ l := by
  unfold escR at h
  split at h
  · cases h
  · rename_i c l1
    split at h
    · exact (grpR_suffix hr h).trans (List.suffix_cons _ _)
    all_goals (repeat' (first | (split at h) | (cases h; exact List.suffix_cons _ _) | (cases h)))
theorem setN_suffix {l l' : List Int} {n n' : Nat} {x : Re} (h : setN l n = .ok (x, l', n')) : l' <:+ l := by
  unfold setN at h
  split at h
  · cases h
  · rename_i x1 l1 h1
    simp only [Except.ok.injEq, Prod.mk.injEq] at h
    rw [← h.2.1]
    exact setR_suffix h1
theorem atomR_suffix {rec : Rec} (hr : RecS rec) {l l' : List Int} {n n' o : Nat} {x : Re} (h : atomR rec l n o = .ok (x, l', n')) : l' <:+ l ∧ l'.length < l.length := by
  unfold atomR at h
  split at h
  · cases h
  · rename_i c l1
    suffices hs : l' <:+ l1 from ⟨hs.trans (List.suffix_cons _ _), by have := hs.length_le; simp; omega⟩
    split at h
    · cases h; exact List.suffix_refl _
    split at h
    · exact setN_suffix h
    split at h
    · cases h; exact List.suffix_refl _
    split at h
    · exact escR_suffix hr h
    · cases h; exact List.suffix_refl _
theorem pcsR_suffix {rec : Rec} (hr : RecS rec) (o : Nat) : ∀ (f : Nat) (acc : List Re) (l : List Int) (n : Nat) {xs : List Re} {l' : List Int} {n' : Nat}, pcsR rec o f acc l n = .ok (xs, l', n') → l' <:+ l
  | 0, acc, l, n, xs, l', n', h => by cases h
  | f + 1, acc, l, n, xs, l', n', h => by
    unfold pcsR at h
    split at h
    · simp only [Except.ok.injEq, Prod.mk.injEq] at h
      rw [h.2.1]; exact List.suffix_refl _
    split at h
    · cases h
    · rename_i x l1 n1 h1
      split at h
      · cases h
      · rename_i y l2 h2
        exact ((pcsR_suffix hr o f _ _ _ h).trans (reps_suffix _ _ _ h2)).trans (atomR_suffix hr h1).1
theorem pcs0_suffix {rec : Rec} (hr : RecS rec) {l l' : List Int} {n n' o : Nat} {xs : List Re} (h : pcs0 rec l n o = .ok (xs, l', n')) : l' <:+ l := by
  unfold pcs0 at h
  split at h
  · exact (pcsR_suffix hr o _ _ _ _ h).trans (List.drop_suffix _ _)
  · exact pcsR_suffix hr o _ _ _ _ h
theorem altR_suffix {rec : Rec} (hr : RecS rec) {l l' : List Int} {n n' o : Nat} {x : Re} (h : altR rec l n o = .ok (x, l', n')) : l' <:+ l := by
  unfold altR at h
  split at h
  · cases h
  · rename_i xs l1 n1 h1
    simp only [Except.ok.injEq, Prod.mk.injEq] at h
    rw [← h.2.1]
    exact pcs0_suffix hr h1
theorem altsL_suffix {rec : Rec} (hr : RecS rec) (o : Nat) : ∀ (f : Nat) (acc : List Re) (l : List Int) (n : Nat) {xs : List Re} {l' : List Int} {n' : Nat}, altsL rec o f acc l n = .ok (xs, l', n') → l' <:+ l
  | 0, acc, l, n, xs, l', n', h => by cases h
  | f + 1, acc, l, n, xs, l', n', h => by
    unfold altsL at h
    split at h
    · split at h
      · cases h
      · rename_i x l1 n1 h1
        exact ((altsL_suffix hr o f _ _ _ h).trans (altR_suffix hr h1)).trans (List.drop_suffix _ _)
    · simp only [Except.ok.injEq, Prod.mk.injEq] at h
      rw [h.2.1]; exact List.suffix_refl _
theorem alts0_suffix {rec : Rec} (hr : RecS rec) {l l' : List Int} {n n' o : Nat} {xs : List Re} (h : alts0 rec l n o = .ok (xs, l', n')) : l' <:+ l := by
  unfold alts0 at h
  split at h
  · cases h
  · rename_i x l1 n1 h1
    exact (altsL_suffix hr o _ _ _ _ h).trans (altR_suffix hr h1)
theorem altsR_suffix {rec : Rec} (hr : RecS rec) : RecS (altsR rec) := by
  intro l n o x l' n' h
  unfold altsR at h
  split at h
  · cases h
  · rename_i xs l1 n1 h1
    simp only [Except.ok.injEq, Prod.mk.injEq] at h
    rw [← h.2.1]
    exact alts0_suffix hr h1
theorem alts_suffix : ∀ d, RecS (alts d)
  | 0 => fun l n o x l' n' h => by cases h
  | d + 1 => altsR_suffix (alts_suffix d)
end Go.Proofs.Ytkjiobbkbhmijaa.U
