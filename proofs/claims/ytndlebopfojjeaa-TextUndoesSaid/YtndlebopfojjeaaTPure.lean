/-
  Lines and rows as plain lists: joined, parted, put in the place of others; lengths in blocks. No program here.
-/
import Derived.Test.YtndlebopfojjeaaUBase
namespace Go.Proofs.Ytndlebopfojjeaa.U
set_option linter.unusedVariables false
set_option linter.unusedSimpArgs false
set_option maxRecDepth 100000

/-- lines, an end behind each -/
def joinE (L : List (List Int)) : List Int := L.flatMap (· ++ [10])
def joinL (L : List (List Int)) : List Int := (joinE L).dropLast
theorem joinE_nil : joinE [] = [] := rfl
theorem joinE_cons (x : List Int) (L : List (List Int)) : joinE (x :: L) = x ++ 10 :: joinE L := by simp [joinE]
theorem joinE_append (L M : List (List Int)) : joinE (L ++ M) = joinE L ++ joinE M := by simp [joinE]
theorem joinE_one (x : List Int) : joinE [x] = x ++ [10] := by simp [joinE]
theorem joinE_joinL {L : List (List Int)} (h : L ≠ []) : joinE L = joinL L ++ [10] := by
  rcases List.eq_nil_or_concat L with e | ⟨A, x, e⟩
  · exact absurd e h
  · rw [e, List.concat_eq_append]
    unfold joinL
    rw [joinE_append, joinE_one, ← List.append_assoc, List.dropLast_concat]
theorem joinL_nil : joinL [] = [] := rfl
theorem joinL_of {L : List (List Int)} {x : List Int} (h : joinE L = x ++ [10]) : joinL L = x := by unfold joinL; rw [h, List.dropLast_concat]
theorem joinL_snoc (A : List (List Int)) (x : List Int) : joinL (A ++ [x]) = (if A = [] then [] else joinL A ++ [10]) ++ x := by
  apply joinL_of
  rw [joinE_append, joinE_one]
  split
  · next e => subst e; simp [joinE_nil]
  · next e => rw [joinE_joinL e]; simp
theorem joinL_one (x : List Int) : joinL [x] = x := by apply joinL_of; exact joinE_one x

def sizeN (ls : List Nat) : Nat := (ls.map (· + 1)).sum
theorem sizeN_nil : sizeN [] = 0 := rfl
theorem sizeN_cons (a : Nat) (l : List Nat) : sizeN (a :: l) = a + 1 + sizeN l := by simp [sizeN]
theorem sizeN_append (a b : List Nat) : sizeN (a ++ b) = sizeN a + sizeN b := by simp [sizeN]
theorem sizeN_sum (a : List Nat) : sizeN a = a.sum + a.length := by
  induction a with
  | nil => rfl
  | cons x l ih => rw [sizeN_cons, ih]; simp; omega
theorem sizeN_take_le (a : List Nat) (i : Nat) : sizeN (a.take i) ≤ sizeN a := by
  conv => rhs; rw [← List.take_append_drop i a, sizeN_append]
  omega
def lens (L : List (List Int)) : List Nat := L.map List.length
theorem lens_len (L : List (List Int)) : (lens L).length = L.length := by simp [lens]
theorem lens_append (L M : List (List Int)) : lens (L ++ M) = lens L ++ lens M := by simp [lens]
theorem lens_take (L : List (List Int)) (i : Nat) : lens (L.take i) = (lens L).take i := by simp [lens]
theorem lens_drop (L : List (List Int)) (i : Nat) : lens (L.drop i) = (lens L).drop i := by simp [lens]
theorem lens_at {L : List (List Int)} {i : Nat} {x : List Int} (h : L[i]? = some x) : (lens L)[i]? = some x.length := by simp [lens, h]
theorem joinE_len (L : List (List Int)) : (joinE L).length = sizeN (lens L) := by
  induction L with
  | nil => rfl
  | cons x L ih => rw [joinE_cons, List.length_append, List.length_cons, ih]; simp [lens, sizeN_cons]; omega
theorem joinL_len {L : List (List Int)} (h : L ≠ []) : (joinL L).length + 1 = sizeN (lens L) := by
  rw [← joinE_len, joinE_joinL h, List.length_append]; rfl

/-- a row, parted -/
def splitL : List Int → List (List Int)
  | [] => [[]]
  | x :: r => if x = 10 then [] :: splitL r else (x :: (splitL r).headD []) :: (splitL r).tail
theorem splitL_ne (x : List Int) : splitL x ≠ [] := by
  cases x with
  | nil => simp [splitL]
  | cons a r => unfold splitL; split <;> simp
def plainL (L : List (List Int)) : Prop := ∀ x ∈ L, (10 : Int) ∉ x
theorem splitL_hd (x : List Int) : ∃ h t, splitL x = h :: t := by
  cases e : splitL x with
  | nil => exact absurd e (splitL_ne x)
  | cons h t => exact ⟨h, t, rfl⟩
theorem split_plain (x : List Int) : plainL (splitL x) := by
  induction x with
  | nil => intro y hy; simp [splitL] at hy; subst hy; simp
  | cons a r ih =>
    obtain ⟨h, t, e⟩ := splitL_hd r
    unfold splitL
    rw [e] at ih ⊢
    split
    · intro y hy
      simp only [List.mem_cons] at hy
      rcases hy with rfl | hy
      · simp
      · exact ih y (by simpa using hy)
    · next ha =>
      intro y hy
      simp only [List.headD_cons, List.tail_cons, List.mem_cons] at hy
      rcases hy with rfl | hy
      · have := ih h (by simp)
        simp only [List.mem_cons, not_or]
        exact ⟨fun e => ha e.symm, this⟩
      · exact ih y (by simp [hy])
theorem join_split (x : List Int) : joinE (splitL x) = x ++ [10] := by
  induction x with
  | nil => rfl
  | cons a r ih =>
    obtain ⟨h, t, e⟩ := splitL_hd r
    unfold splitL
    rw [e] at ih ⊢
    split
    · next ha => subst ha; rw [joinE_cons, ih]; rfl
    · simp only [List.headD_cons, List.tail_cons]
      rw [joinE_cons] at ih ⊢
      rw [List.cons_append, ih]; rfl
theorem joinL_split (x : List Int) : joinL (splitL x) = x := joinL_of (join_split x)
theorem splitL_c {a : Int} (h : a ≠ 10) (r : List Int) : splitL (a :: r) = (a :: (splitL r).headD []) :: (splitL r).tail := by
  conv => lhs; unfold splitL
  rw [if_neg h]
theorem splitL_10 (r : List Int) : splitL (10 :: r) = [] :: splitL r := by
  conv => lhs; unfold splitL
  rw [if_pos rfl]
theorem split_end {x : List Int} (h : (10 : Int) ∉ x) (r : List Int) : splitL (x ++ 10 :: r) = x :: splitL r := by
  induction x with
  | nil => exact splitL_10 r
  | cons a x ih =>
    simp only [List.mem_cons, not_or] at h
    rw [List.cons_append, splitL_c (fun e => h.1 e.symm), ih h.2]
    simp
theorem split_one {x : List Int} (h : (10 : Int) ∉ x) : splitL x = [x] := by
  induction x with
  | nil => rfl
  | cons a x ih =>
    simp only [List.mem_cons, not_or] at h
    rw [splitL_c (fun e => h.1 e.symm), ih h.2]
    simp
theorem split_uniq {L : List (List Int)} (hp : plainL L) {y : List Int} (h : joinE L = y ++ [10]) : L = splitL y := by
  induction L generalizing y with
  | nil => simp [joinE_nil] at h
  | cons x L ih =>
    have hx := hp x (by simp)
    cases L with
    | nil =>
      rw [joinE_one] at h
      obtain rfl := List.append_cancel_right h
      exact (split_one hx).symm
    | cons y' r =>
      have hne : (y' :: r) ≠ [] := by simp
      rw [joinE_cons, joinE_joinL hne] at h
      have e : y = x ++ 10 :: joinL (y' :: r) := by
        have h' : (x ++ 10 :: joinL (y' :: r)) ++ [10] = y ++ [10] := by rw [← h]; simp
        exact (List.append_cancel_right h').symm
      rw [e, split_end hx, ← ih (fun z hz => hp z (by simp [hz])) (joinE_joinL hne)]
theorem split_join {L : List (List Int)} (hp : plainL L) (hne : L ≠ []) : splitL (joinL L) = L := (split_uniq hp (joinE_joinL hne)).symm
theorem split_snoc10 (x : List Int) : splitL (x ++ [10]) = splitL x ++ [[]] := by
  symm
  apply split_uniq
  · intro y hy
    rcases List.mem_append.1 hy with hy | hy
    · exact split_plain x y hy
    · simp at hy; subst hy; simp
  · rw [joinE_append, join_split, joinE_one]; simp
theorem split_snoc (x : List Int) {c : Int} (hc : c ≠ 10) : splitL (x ++ [c]) = (splitL x).dropLast ++ [(splitL x).getLast (splitL_ne x) ++ [c]] := by
  symm
  have e := List.dropLast_concat_getLast (splitL_ne x)
  have hj := join_split x
  have hp := split_plain x
  generalize (splitL x).getLast (splitL_ne x) = l at e ⊢
  generalize (splitL x).dropLast = d at e ⊢
  rw [← e] at hj hp
  apply split_uniq
  · intro y hy
    rcases List.mem_append.1 hy with hy | hy
    · exact hp y (by simp [hy])
    · simp only [List.mem_singleton] at hy
      subst hy
      have := hp l (by simp)
      simp only [List.mem_append, List.mem_singleton, not_or]
      exact ⟨this, fun e => hc e.symm⟩
  · rw [joinE_append, joinE_one] at hj ⊢
    have h1 : joinE d ++ l = x := by
      have : (joinE d ++ l) ++ [10] = x ++ [10] := by rw [← hj]; simp
      exact List.append_cancel_right this
    rw [← h1]; simp
theorem split_sum (x : List Int) : sizeN (lens (splitL x)) = x.length + 1 := by rw [← joinE_len, join_split]; simp
theorem split_count (x : List Int) : (splitL x).length ≤ x.length + 1 := by
  rw [← split_sum, sizeN_sum, lens_len]; omega

/-- a row, cut at a place -/
theorem row_cut {L : List (List Int)} {i c : Nat} {x : List Int} (hx : L[i]? = some x) (hc : c ≤ x.length) :
    (joinL L).take (sizeN ((lens L).take i) + c) = joinE (L.take i) ++ x.take c ∧ (joinL L).drop (sizeN ((lens L).take i) + c) ++ [10] = x.drop c ++ 10 :: joinE (L.drop (i + 1)) := by
  have hi : i < L.length := (List.getElem?_eq_some_iff.1 hx).1
  have hxe : L[i] = x := (List.getElem?_eq_some_iff.1 hx).2
  have hne : L ≠ [] := by intro e; subst e; simp at hi
  have e : joinE L = (joinE (L.take i) ++ x.take c) ++ (x.drop c ++ 10 :: joinE (L.drop (i + 1))) := by
    conv => lhs; rw [← List.take_append_drop i L, List.drop_eq_getElem_cons hi, joinE_append, joinE_cons, hxe]
    conv => lhs; rw [← List.take_append_drop c x]
    simp only [List.append_assoc]
  have hl : (joinE (L.take i) ++ x.take c).length = sizeN ((lens L).take i) + c := by rw [List.length_append, joinE_len, lens_take, List.length_take, Nat.min_eq_left hc]
  rw [joinE_joinL hne] at e
  have hlen := congrArg List.length e
  simp only [List.length_append, List.length_cons, List.length_nil] at hlen
  rw [List.length_append] at hl
  have hle : sizeN ((lens L).take i) + c ≤ (joinL L).length := by
    have : (x.drop c ++ 10 :: joinE (L.drop (i + 1))).length ≥ 1 := by simp; omega
    simp only [List.length_append, List.length_cons] at this
    omega
  constructor
  · have := congrArg (List.take (sizeN ((lens L).take i) + c)) e
    rw [List.take_append_of_le_length hle, List.take_left' (by rw [List.length_append]; exact hl)] at this
    exact this
  · have := congrArg (List.drop (sizeN ((lens L).take i) + c)) e
    rw [List.drop_append_of_le_length hle, List.drop_left' (by rw [List.length_append]; exact hl)] at this
    exact this
theorem off_le {L : List (List Int)} {i c : Nat} {x : List Int} (hx : L[i]? = some x) (hc : c ≤ x.length) : sizeN ((lens L).take i) + c ≤ (joinL L).length := by
  have h := congrArg List.length (row_cut hx hc).1
  rw [List.length_take, List.length_append, joinE_len, lens_take, List.length_take, Nat.min_eq_left hc] at h
  omega

/-- x and y grow onto the first and the last of lines -/
def glue (x : List Int) : List (List Int) → List Int → List (List Int)
  | [], _ => []
  | [m], y => [x ++ m ++ y]
  | m :: n :: r, y => (x ++ m) :: glue [] (n :: r) y
theorem glue_ne {x y : List Int} {M : List (List Int)} (h : M ≠ []) : glue x M y ≠ [] := by
  match M, h with
  | [m], _ => simp [glue]
  | m :: n :: r, _ => simp [glue]
theorem glue_join : ∀ (x : List Int) (M : List (List Int)) (y : List Int), M ≠ [] → joinE (glue x M y) = x ++ joinL M ++ y ++ [10]
  | x, [m], y, _ => by simp [glue, joinE_one, joinL_one]
  | x, m :: n :: r, y, _ => by
    have h := glue_join [] (n :: r) y (by simp)
    rw [glue, joinE_cons, h]
    have e : joinL (m :: n :: r) = m ++ 10 :: joinL (n :: r) := by
      apply joinL_of
      rw [joinE_cons, joinE_joinL (L := n :: r) (by simp)]; simp
    rw [e]; simp
theorem glue_plain : ∀ (x : List Int) (M : List (List Int)) (y : List Int), (10 : Int) ∉ x → (10 : Int) ∉ y → plainL M → plainL (glue x M y)
  | x, [], y, _, _, _ => by intro z hz; cases hz
  | x, [m], y, hx, hy, hM => by
    intro z hz
    simp only [glue, List.mem_singleton] at hz
    subst hz
    have := hM m (by simp)
    simp [hx, hy, this]
  | x, m :: n :: r, y, hx, hy, hM => by
    intro z hz
    simp only [glue, List.mem_cons] at hz
    rcases hz with rfl | hz
    · have := hM m (by simp)
      simp [hx, this]
    · exact glue_plain [] (n :: r) y (by simp) hy (fun w hw => hM w (by simp [hw])) z hz
theorem glue_lens : ∀ (x : List Int) (M : List (List Int)) (y : List Int), lens (glue x M y) = ((lens M).modify 0 (· + x.length)).modify (M.length - 1) (· + y.length)
  | x, [], y => rfl
  | x, [m], y => by simp [glue, lens]; omega
  | x, m :: n :: r, y => by
    have h := glue_lens [] (n :: r) y
    have e : lens (glue x (m :: n :: r) y) = (x.length + m.length) :: lens (glue [] (n :: r) y) := by simp [glue, lens]
    rw [e, h]
    simp [lens, Nat.add_comm]
theorem glue_count : ∀ (x : List Int) (M : List (List Int)) (y : List Int), (glue x M y).length = M.length
  | x, [], y => rfl
  | x, [m], y => rfl
  | x, m :: n :: r, y => by rw [glue, List.length_cons, glue_count [] (n :: r) y]; rfl

def swapL (L : List (List Int)) (i : Nat) (x : List Int) (j : Nat) (y : List Int) (M : List (List Int)) : List (List Int) := L.take i ++ (glue x M y ++ L.drop (j + 1))
theorem swap_ne {L : List (List Int)} {i j : Nat} {x y : List Int} {M : List (List Int)} (h : M ≠ []) : swapL L i x j y M ≠ [] := by
  unfold swapL
  intro e
  simp only [List.append_eq_nil_iff] at e
  exact glue_ne h e.2.1
theorem swap_plain {L : List (List Int)} {i j c d : Nat} {x y : List Int} {M : List (List Int)} (hp : plainL L) (hM : plainL M) (hx : x ∈ L) (hy : y ∈ L) : plainL (swapL L i (x.take c) j (y.drop d) M) := by
  intro z hz
  unfold swapL at hz
  rcases List.mem_append.1 hz with hz | hz
  · exact hp z (List.mem_of_mem_take hz)
  · rcases List.mem_append.1 hz with hz | hz
    · exact glue_plain _ _ _ (fun h => hp x hx (List.mem_of_mem_take h)) (fun h => hp y hy (List.mem_of_mem_drop h)) hM z hz
    · exact hp z (List.mem_of_mem_drop hz)
theorem swap_join {L : List (List Int)} {i c j d : Nat} {x y : List Int} {M : List (List Int)} (hx : L[i]? = some x) (hc : c ≤ x.length) (hy : L[j]? = some y) (hd : d ≤ y.length) (hM : M ≠ []) :
    joinL (swapL L i (x.take c) j (y.drop d) M) = (joinL L).take (sizeN ((lens L).take i) + c) ++ (joinL M ++ (joinL L).drop (sizeN ((lens L).take j) + d)) := by
  apply joinL_of
  unfold swapL
  have e := (row_cut hy hd).2
  rw [joinE_append, joinE_append, glue_join _ _ _ hM, (row_cut hx hc).1]
  generalize (joinL L).drop (sizeN ((lens L).take j) + d) = Z at e ⊢
  simp only [List.append_assoc] at e ⊢
  rw [e]
  simp
theorem swap_lens (L : List (List Int)) (i j : Nat) (x y : List Int) (M : List (List Int)) : lens (swapL L i x j y M) = (lens L).take i ++ (((lens M).modify 0 (· + x.length)).modify (M.length - 1) (· + y.length) ++ (lens L).drop (j + 1)) := by
  unfold swapL
  rw [lens_append, lens_append, lens_take, lens_drop, glue_lens]

/-- which place has n runes ahead of it -/
def findP : List Nat → Nat → Nat × Nat
  | [], n => (0, n)
  | a :: r, n => if n ≤ a then (0, n) else ((findP r (n - (a + 1))).1 + 1, (findP r (n - (a + 1))).2)
theorem findP_spec : ∀ (ls : List Nat) (n : Nat), n < sizeN ls → (findP ls n).1 < ls.length ∧ sizeN (ls.take (findP ls n).1) + (findP ls n).2 = n ∧ (findP ls n).2 ≤ ls.getD (findP ls n).1 0
  | [], n, h => by simp [sizeN_nil] at h
  | a :: r, n, h => by
    unfold findP
    split
    · next hn => simp [sizeN_nil, hn]
    · next hn =>
      rw [sizeN_cons] at h
      obtain ⟨h1, h2, h3⟩ := findP_spec r (n - (a + 1)) (by omega)
      refine ⟨by simp; omega, ?_, by simpa using h3⟩
      simp only [List.take_succ_cons, sizeN_cons]
      omega
theorem findP_of : ∀ (ls : List Nat) (i c a : Nat), ls[i]? = some a → c ≤ a → findP ls (sizeN (ls.take i) + c) = (i, c)
  | [], i, c, a, h, _ => by simp at h
  | x :: r, 0, c, a, h, hc => by
    simp at h
    subst h
    simp [findP, sizeN_nil, hc]
  | x :: r, i + 1, c, a, h, hc => by
    have ih := findP_of r i c a (by simpa using h) hc
    rw [List.take_succ_cons, sizeN_cons]
    unfold findP
    rw [if_neg (by omega), show x + 1 + sizeN (r.take i) + c - (x + 1) = sizeN (r.take i) + c from by omega, ih]
theorem findP_skip : ∀ (a b : List Nat) (n : Nat), sizeN a ≤ n → findP (a ++ b) n = ((findP b (n - sizeN a)).1 + a.length, (findP b (n - sizeN a)).2)
  | [], b, n, _ => by simp [sizeN_nil]
  | x :: a, b, n, h => by
    rw [sizeN_cons] at h
    have ih := findP_skip a b (n - (x + 1)) (by omega)
    rw [List.cons_append, findP, if_neg (by omega), ih, sizeN_cons, show n - (x + 1) - sizeN a = n - (x + 1 + sizeN a) from by omega]
    simp [Nat.add_assoc]
theorem findP_in : ∀ (a b : List Nat) (n : Nat), n < sizeN a → findP (a ++ b) n = findP a n
  | [], b, n, h => by simp [sizeN_nil] at h
  | x :: a, b, n, h => by
    rw [sizeN_cons] at h
    rw [List.cons_append, findP, findP]
    split
    · rfl
    · rw [findP_in a b (n - (x + 1)) (by omega)]

/-- which block has a line -/
def findB : List (List Nat) → Nat → Nat × Nat
  | [], _ => (0, 0)
  | b :: r, i => if i < b.length then (0, i) else ((findB r (i - b.length)).1 + 1, (findB r (i - b.length)).2)
theorem findB_spec : ∀ (bs : List (List Nat)) (i : Nat), i ≤ bs.flatten.length → (findB bs i).1 ≤ bs.length ∧ (bs.take (findB bs i).1).flatten.length + (findB bs i).2 = i ∧
    ((findB bs i).1 < bs.length → (findB bs i).2 < (bs.getD (findB bs i).1 []).length) ∧ ((findB bs i).1 = bs.length → (findB bs i).2 = 0)
  | [], i, h => by simp at h; subst h; simp [findB]
  | b :: r, i, h => by
    unfold findB
    split
    · next hi => simp [hi]
    · next hi =>
      rw [List.flatten_cons, List.length_append] at h
      obtain ⟨h1, h2, h3, h4⟩ := findB_spec r (i - b.length) (by omega)
      refine ⟨by simp; omega, ?_, fun hl => ?_, fun hl => h4 (by simpa using hl)⟩
      · simp only [List.take_succ_cons, List.flatten_cons, List.length_append]; omega
      · simpa using h3 (by simpa using hl)
theorem flat_cut (bs : List (List Nat)) (k : Nat) : bs.flatten = (bs.take k).flatten ++ (bs.drop k).flatten := by rw [← List.flatten_append, List.take_append_drop]
theorem flat_at {bs : List (List Nat)} {k : Nat} {b : List Nat} (h : bs[k]? = some b) : (bs.drop k).flatten = b ++ (bs.drop (k + 1)).flatten := by
  obtain ⟨hk, e⟩ := List.getElem?_eq_some_iff.1 h
  rw [List.drop_eq_getElem_cons hk, e, List.flatten_cons]
theorem flat_succ {bs : List (List Nat)} {k : Nat} {b : List Nat} (h : bs[k]? = some b) : (bs.take (k + 1)).flatten = (bs.take k).flatten ++ b := by
  obtain ⟨hk, e⟩ := List.getElem?_eq_some_iff.1 h
  rw [List.take_succ_eq_append_getElem hk, List.flatten_append, e]; simp

/-- where the pieces of a cut list begin -/
theorem cuts_mono {n m : Nat} (hm : 0 < m) (hmn : m ≤ n) (i : Nat) : i * n / m + 1 ≤ (i + 1) * n / m := by
  rw [Nat.succ_mul, Nat.le_div_iff_mul_le hm, Nat.add_mul, Nat.one_mul]
  have := Nat.div_mul_le_self (i * n) m
  omega
theorem cuts_le {n m : Nat} (hm : 0 < m) {i : Nat} (hi : i ≤ m) : i * n / m ≤ n := by
  rw [Nat.div_le_iff_le_mul_add_pred hm]
  have : i * n ≤ m * n := Nat.mul_le_mul_right n hi
  omega
theorem cuts_end {n m : Nat} (hm : 0 < m) : m * n / m = n := Nat.mul_div_cancel_left n hm
def pieceN (xs : List Nat) (m i : Nat) : List Nat := (xs.take ((i + 1) * xs.length / m)).drop (i * xs.length / m)
def piecesN (xs : List Nat) (m k : Nat) : List (List Nat) := (List.range k).map (pieceN xs m)
theorem piecesN_succ (xs : List Nat) (m k : Nat) : piecesN xs m (k + 1) = piecesN xs m k ++ [pieceN xs m k] := by simp [piecesN, List.range_succ]
theorem piecesN_flat {xs : List Nat} {m : Nat} (hm : 0 < m) (hmn : m ≤ xs.length) (k : Nat) : (piecesN xs m k).flatten = xs.take (k * xs.length / m) := by
  induction k with
  | zero => simp [piecesN]
  | succ k ih =>
    rw [piecesN_succ, List.flatten_append, ih]
    unfold pieceN
    have h1 := cuts_mono hm hmn k
    simp only [List.flatten_cons, List.flatten_nil, List.append_nil]
    conv => rhs; rw [← List.take_append_drop (k * xs.length / m) (xs.take ((k + 1) * xs.length / m))]
    rw [List.take_take, Nat.min_eq_left (by omega)]
theorem pieceN_ne {xs : List Nat} {m i : Nat} (hm : 0 < m) (hmn : m ≤ xs.length) (hi : i < m) : pieceN xs m i ≠ [] := by
  intro e
  have h := congrArg List.length e
  unfold pieceN at h
  have h1 := cuts_mono hm hmn i
  have h2 := cuts_le (n := xs.length) hm (i := i + 1) (by omega)
  simp only [List.length_drop, List.length_take, List.length_nil] at h
  omega
theorem flat_count {bs : List (List Nat)} (h : ∀ b ∈ bs, b ≠ []) : bs.length ≤ bs.flatten.length := by
  induction bs with
  | nil => simp
  | cons b r ih =>
    have h1 := ih (fun x hx => h x (by simp [hx]))
    have h2 : 0 < b.length := List.length_pos_iff.2 (h b (by simp))
    simp only [List.flatten_cons, List.length_append, List.length_cons]; omega
end Go.Proofs.Ytndlebopfojjeaa.U
