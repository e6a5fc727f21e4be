/-
  Lines put in the place of others, and back: plain lists alone.
-/
import Derived.Test.YtndlebopfojjeaaTSmall
namespace Go.Proofs.Ytndlebopfojjeaa.U
set_option linter.unusedVariables false
set_option linter.unusedSimpArgs false
set_option maxRecDepth 100000

theorem repL_eq {M more : List (List Int)} (i n : Nat) (hm : more ≠ []) : repL M i n more = M.take i ++ (more ++ M.drop (i + n)) := by
  unfold repL
  apply normL_of
  intro e
  exact hm (List.append_eq_nil_iff.1 (List.append_eq_nil_iff.1 e).2).1
theorem rep_count {M more : List (List Int)} {i n : Nat} (hm : more ≠ []) (hin : i + n ≤ M.length) : (repL M i n more).length = M.length - n + more.length := by
  rw [repL_eq i n hm]
  simp only [List.length_append, List.length_take, List.length_drop]
  omega
theorem rep_at {M more : List (List Int)} {i n k : Nat} (hm : more ≠ []) (hin : i + n ≤ M.length) (hk : k < more.length) : (repL M i n more)[i + k]? = more[k]? := by
  rw [repL_eq i n hm]
  have hl : (M.take i).length = i := by rw [List.length_take]; omega
  rw [List.getElem?_append_right (by omega), hl, show i + k - i = k from by omega, List.getElem?_append_left hk]
theorem rep_size_le {M more : List (List Int)} {i n : Nat} (hin : i + n ≤ M.length) : (joinL (repL M i n more)).length ≤ sizeN (lens M) + sizeN (lens more) := by
  have h2 := normL_len (M.take i ++ (more ++ M.drop (i + n)))
  rw [lens_append, lens_append, sizeN_append, sizeN_append, lens_take, lens_drop] at h2
  have h3 : sizeN ((lens M).take (i + n)) + sizeN ((lens M).drop (i + n)) = sizeN (lens M) := by rw [← sizeN_append, List.take_append_drop]
  have h4 : sizeN ((lens M).take i) ≤ sizeN ((lens M).take (i + n)) := by
    have := sizeN_take_le ((lens M).take (i + n)) i
    rwa [List.take_take, Nat.min_eq_left (by omega)] at this
  unfold repL
  omega
theorem rep_ok {M more : List (List Int)} {i n : Nat} (hin : i + n ≤ M.length) (hp : more.any has10 = false) (hsz : sizeN (lens M) + sizeN (lens more) ≤ 65536) : repT M i n more = (repL M i n more, 0) := by
  have h := rep_size_le (more := more) hin
  unfold repT
  rw [if_pos (by omega), hp, Int.toNat_natCast, Int.toNat_natCast, if_neg (by simp), if_neg (by omega)]
theorem rep_back {M more : List (List Int)} {i n : Nat} (hM : M ≠ []) (hm : more ≠ []) (hin : i + n ≤ M.length) : repL (repL M i n more) i more.length ((M.drop i).take n) = M := by
  have hl : (M.take i).length = i := by rw [List.length_take]; omega
  rw [repL_eq i n hm]
  unfold repL
  have e1 : (M.take i ++ (more ++ M.drop (i + n))).take i = M.take i := List.take_left' hl
  have e2 : (M.take i ++ (more ++ M.drop (i + n))).drop (i + more.length) = M.drop (i + n) := by
    rw [← List.append_assoc, List.drop_left' (by rw [List.length_append, hl])]
  have e3 : M.take i ++ ((M.drop i).take n ++ M.drop (i + n)) = M := by
    conv => rhs; rw [← List.take_append_drop i M, ← List.take_append_drop n (M.drop i), List.drop_drop]
  rw [e1, e2, e3, normL_of hM]
/-- what comes back is plain, and fits -/
theorem rep_back_ok {M more : List (List Int)} {i n : Nat} (hM : M ≠ []) (hp : plainL M) (hm : more ≠ []) (hin : i + n ≤ M.length) (hsz : sizeN (lens M) ≤ 65536) : repT (repL M i n more) i (more.length : Nat) ((M.drop i).take n) = (M, 0) := by
  have hj := joinL_len hM
  have hc := rep_count hm hin
  have hany : ((M.drop i).take n).any has10 = false := plain_iff.2 (fun x hx => hp x (List.mem_of_mem_drop (List.mem_of_mem_take hx)))
  unfold repT
  rw [if_pos (by rw [hc]; omega), hany, Int.toNat_natCast, Int.toNat_natCast, if_neg (by simp), rep_back hM hm hin, if_neg (by omega)]
end Go.Proofs.Ytndlebopfojjeaa.U
