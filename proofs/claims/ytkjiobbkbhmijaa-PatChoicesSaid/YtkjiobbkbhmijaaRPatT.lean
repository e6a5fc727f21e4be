/-
  Patterns with counts: how they are read. No program here.
-/
import Derived.Test.YtkjiobbkbhmijaaRDec
namespace Go.Proofs.Ytkjiobbkbhmijaa.U
set_option linter.unusedVariables false
set_option linter.unusedSimpArgs false
set_option maxRecDepth 100000

def numF : Int → List Int → Int
  | a, [] => a
  | a, c :: l => numF (min (a * 10 + (c - 48)) 101) l
theorem num_app : ∀ (l : List Int) (a c : Int) (t : List Int), l.all dig = true → dig c = false → num a (l ++ c :: t) = (numF a l, c :: t)
  | [], a, c, t, _, hc => by simp [num, hc, numF]
  | x :: l, a, c, t, h, hc => by
    simp only [List.all_cons, Bool.and_eq_true] at h
    rw [List.cons_append, num, if_pos h.1, num_app l _ c t h.2 hc]
    rfl
theorem dec_tab : (List.range 121).all (fun m => (numF 0 (decF 2 m) == ((min m 101 : Nat) : Int)) && (decF 2 m).all dig && hasD (decF 2 m) && decide ((decF 2 m).length ≤ 3)) = true := by kernel_rfl
theorem dec_facts (m : Nat) (h : m ≤ 120) : numF 0 (decF 2 m) = ((min m 101 : Nat) : Int) ∧ (decF 2 m).all dig = true ∧ (∀ t, hasD (decF 2 m ++ t) = true) ∧ (decF 2 m).length ≤ 3 := by
  have := dec_tab
  rw [List.all_eq_true] at this
  have := this m (by simp; omega)
  simp only [Bool.and_eq_true, beq_iff_eq, decide_eq_true_eq] at this
  obtain ⟨⟨⟨h1, h2⟩, h3⟩, h4⟩ := this
  refine ⟨h1, h2, fun t => ?_, h4⟩
  cases hd : decF 2 m with
  | nil => rw [hd] at h3; simp [hasD] at h3
  | cons c l => rw [hd] at h3; exact h3
theorem counts_two (m n : Nat) (hm : m ≤ 120) (hn : n ≤ 120) (t : List Int) : counts (decF 2 m ++ 44 :: (decF 2 n ++ 92 :: 125 :: t)) = if badT ((min m 101 : Nat) : Int) ((min n 101 : Nat) : Int) then .error 11 else .ok (((min m 101 : Nat) : Int), ((min n 101 : Nat) : Int), t) := by
  obtain ⟨a1, a2, a3, a4⟩ := dec_facts m hm
  obtain ⟨b1, b2, b3, b4⟩ := dec_facts n hn
  have hq : num 0 (decF 2 m ++ 44 :: (decF 2 n ++ 92 :: 125 :: t)) = (((min m 101 : Nat) : Int), 44 :: (decF 2 n ++ 92 :: 125 :: t)) := by rw [num_app _ _ _ _ a2 rfl, a1]
  have hs : second (((min m 101 : Nat) : Int), 44 :: (decF 2 n ++ 92 :: 125 :: t)) = (((min n 101 : Nat) : Int), 92 :: 125 :: t) := by
    unfold second
    rw [if_pos (by rfl)]
    simp only [List.drop_succ_cons, List.drop_zero]
    rw [b3, if_pos rfl, num_app _ _ _ _ b2 rfl, b1]
  unfold counts
  rw [a3, if_neg (by simp), hq, hs]
  rfl
theorem counts_one (m : Nat) (hm : m ≤ 120) (t : List Int) : counts (decF 2 m ++ 92 :: 125 :: t) = if badT ((min m 101 : Nat) : Int) ((min m 101 : Nat) : Int) then .error 11 else .ok (((min m 101 : Nat) : Int), ((min m 101 : Nat) : Int), t) := by
  obtain ⟨a1, a2, a3, a4⟩ := dec_facts m hm
  have hq : num 0 (decF 2 m ++ 92 :: 125 :: t) = (((min m 101 : Nat) : Int), 92 :: 125 :: t) := by rw [num_app _ _ _ _ a2 rfl, a1]
  have hs : second (((min m 101 : Nat) : Int), 92 :: 125 :: t) = (((min m 101 : Nat) : Int), 92 :: 125 :: t) := rfl
  unfold counts
  rw [a3, if_neg (by simp), hq, hs]
  rfl
theorem badT_iff (m n : Nat) : badT ((min m 101 : Nat) : Int) ((min n 101 : Nat) : Int) = (decide (100 < m) || decide (100 < n) || decide (n < m)) := by
  rw [Bool.eq_iff_iff]
  simp only [badT, Bool.or_eq_true, Bool.and_eq_true, decide_eq_true_eq]
  omega
/-- what may stand behind a part -/
def Stop (t : List Int) : Prop := ended t = true ∧ pre [42] t = false ∧ pre [92, 123] t = false ∧ pre [92, 124] t = false
theorem stop_nil : Stop [] := ⟨rfl, rfl, rfl, rfl⟩
theorem stop_br (t : List Int) : Stop (92 :: 41 :: t) := ⟨rfl, rfl, rfl, rfl⟩
def patA (m n : Nat) (t : List Int) : List Int := 97 :: 92 :: 123 :: (decF 2 m ++ 44 :: (decF 2 n ++ 92 :: 125 :: t))
theorem pcs_end (rec : Rec) (o f : Nat) (acc : List Re) (t : List Int) (n : Nat) (h : ended t = true) : pcsR rec o (f + 1) acc t n = .ok (acc, t, n) := by rw [pcsR, if_pos h]
theorem reps_end (f : Nat) (x : Re) (t : List Int) (h1 : pre [42] t = false) (h2 : pre [92, 123] t = false) : reps (f + 1) x t = .ok (x, t) := by rw [reps, h1, h2]; rfl
theorem inner (rec : Rec) (o k m n : Nat) (hm : m ≤ 120) (hn : n ≤ 120) (t : List Int) (ht : Stop t) :
    pcs0 rec (patA m n t) k o = if badT ((min m 101 : Nat) : Int) ((min n 101 : Nat) : Int) then .error 11 else .ok ([(Re.rune 97).star ((min m 101 : Nat) : Int) ((min n 101 : Nat) : Int)], t, k) := by
  unfold pcs0 patA
  rw [if_neg (by simp [pre])]
  simp only [List.length_cons]
  have hr : ∀ f, reps (f + 1 + 1) (Re.rune 97) (92 :: 123 :: (decF 2 m ++ 44 :: (decF 2 n ++ 92 :: 125 :: t))) = if badT ((min m 101 : Nat) : Int) ((min n 101 : Nat) : Int) then .error 11 else .ok ((Re.rune 97).star ((min m 101 : Nat) : Int) ((min n 101 : Nat) : Int), t) := by
    intro f
    rw [reps, if_neg (by simp [pre]), if_pos (by rfl)]
    simp only [List.drop_succ_cons, List.drop_zero]
    rw [counts_two m n hm hn t]
    by_cases hb : badT ((min m 101 : Nat) : Int) ((min n 101 : Nat) : Int) = true
    · rw [if_pos hb, if_pos hb]
    · rw [if_neg hb, if_neg hb]
      exact reps_end f _ t ht.2.1 ht.2.2.1
  rw [pcsR, if_neg (by simp [ended, pre])]
  have ha : atomR rec (97 :: 92 :: 123 :: (decF 2 m ++ 44 :: (decF 2 n ++ 92 :: 125 :: t))) k o = .ok (Re.rune 97, 92 :: 123 :: (decF 2 m ++ 44 :: (decF 2 n ++ 92 :: 125 :: t)), k) := rfl
  simp only [ha, List.length_cons]
  rw [hr]
  by_cases hb : badT ((min m 101 : Nat) : Int) ((min n 101 : Nat) : Int) = true
  · simp only [hb, if_true]
  · simp only [hb, if_false, Bool.false_eq_true]
    exact pcs_end rec o _ _ t k ht.1
theorem alts_one (d : Nat) (l : List Int) (n o : Nat) (x : Re) (t : List Int) (n' : Nat) (h : pcs0 (alts d) l n o = .ok ([x], t, n')) (ht : pre [92, 124] t = false) : alts (d + 1) l n o = .ok (x, t, n') := by
  show altsR (alts d) l n o = _
  rw [altsR_eq]
  unfold alts0
  rw [altR_eq, h]
  show altF 9 (altsL (alts d) o (t.length + 1) [x] t n') = _
  rw [altsL, ht]
  rfl
theorem alts_err (d : Nat) (l : List Int) (n o : Nat) (e : Int) (h : pcs0 (alts d) l n o = .error e) : alts (d + 1) l n o = .error e := by
  show altsR (alts d) l n o = _
  rw [altsR_eq]
  unfold alts0
  rw [altR_eq, h]
  rfl
theorem parseF_ok (x : Re) (n : Nat) : parseF (.ok (x, [], n)) = if 400 < x.sz then .error 12 else .ok (x, n) := by simp [parseF]
theorem parse_patA (m n : Nat) (hm : m ≤ 120) (hn : n ≤ 120) : parse (patA m n []) = if (decide (100 < m) || decide (100 < n) || decide (n < m)) then .error 11 else .ok ((Re.rune 97).star m n, 0) := by
  rw [parse_eq, ← badT_iff]
  have hi := inner (alts 16) 0 0 m n hm hn [] stop_nil
  by_cases hb : badT ((min m 101 : Nat) : Int) ((min n 101 : Nat) : Int) = true
  · rw [if_pos hb] at hi ⊢
    rw [alts_err 16 _ _ _ _ hi]
    rfl
  · rw [if_neg hb] at hi ⊢
    have hb2 := badT_iff m n
    simp only [hb, Bool.false_eq] at hb2
    simp only [Bool.or_eq_false_iff, decide_eq_false_iff_not] at hb2
    rw [alts_one 16 _ _ _ _ _ _ hi rfl]
    rw [show min m 101 = m by omega, show min n 101 = n by omega]
    rw [parseF_ok]
    have hsz : ((Re.rune 97).star m n).sz = 1 + 1 * tms m n := by simp [Re.star, Re.rune, Re.sz, szs]
    rw [if_neg (by rw [hsz]; unfold tms; omega)]
def patB (m n : Nat) : List Int := 92 :: 40 :: patA m n (92 :: 41 :: 92 :: 123 :: (decF 2 m ++ 92 :: 125 :: []))
theorem parse_patB (m n : Nat) (hm : m ≤ 100) (hn : n ≤ 100) (hmn : m ≤ n) : parse (patB m n) = if 400 < 1 + (2 + max 1 n) * max 1 m then .error 12 else .ok ((((Re.rune 97).star m n).grp 1).star m m, 1) := by
  rw [parse_eq]
  have hb : badT ((min m 101 : Nat) : Int) ((min n 101 : Nat) : Int) = false := by rw [badT_iff]; simp; omega
  have hb1 : badT ((min m 101 : Nat) : Int) ((min m 101 : Nat) : Int) = false := by rw [badT_iff]; simp; omega
  have hi := inner (alts 15) 1 1 m n (by omega) (by omega) (92 :: 41 :: 92 :: 123 :: (decF 2 m ++ 92 :: 125 :: [])) (stop_br _)
  rw [hb, if_neg (by simp)] at hi
  have hal := alts_one 15 _ _ _ _ _ _ hi rfl
  have hp : pcs0 (alts 16) (patB m n) 0 0 = .ok ([(((Re.rune 97).star m n).grp 1).star m m], [], 1) := by
    unfold pcs0 patB
    rw [if_neg (by simp [pre])]
    simp only [List.length_cons]
    rw [pcsR, if_neg (by simp [ended, pre])]
    have ha : atomR (alts 16) (92 :: 40 :: patA m n (92 :: 41 :: 92 :: 123 :: (decF 2 m ++ 92 :: 125 :: []))) 0 0 = .ok (((Re.rune 97).star m n).grp 1, 92 :: 123 :: (decF 2 m ++ 92 :: 125 :: []), 1) := by
      show grpR (alts 16) _ 0 0 = _
      rw [grpR_eq _ _ _ _ (by omega), hal, show min m 101 = m by omega, show min n 101 = n by omega]
      rfl
    simp only [ha, List.length_cons]
    rw [reps, if_neg (by simp [pre]), if_pos (by rfl)]
    simp only [List.drop_succ_cons, List.drop_zero]
    rw [counts_one m (by omega), hb1, if_neg (by simp)]
    simp only
    rw [reps_end _ _ _ rfl rfl]
    simp only
    rw [pcs_end _ _ _ _ _ _ rfl, show min m 101 = m by omega]
    rfl
  rw [alts_one 16 _ _ _ _ _ _ hp rfl]
  rw [parseF_ok]
  have hsz : ((((Re.rune 97).star m n).grp 1).star m m).sz = 1 + (2 + max 1 n) * max 1 m := by
    have h1 : tms m n = max 1 n := by unfold tms; omega
    have h2 : tms m m = max 1 m := by unfold tms; omega
    rw [star_sz, grp_sz, star_sz, h1, h2]
    have : (Re.rune 97).sz = 1 := rfl
    rw [this]
    congr 2
    omega
  rw [hsz]
end Go.Proofs.Ytkjiobbkbhmijaa.U
