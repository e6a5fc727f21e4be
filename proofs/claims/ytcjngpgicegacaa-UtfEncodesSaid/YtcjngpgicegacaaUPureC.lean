/-
  Plain mathematics of the document's own answer of layer 1: a whole scalar at the head of bytes, bytes that could go on, all runes of bytes; that they are what Next and Decode tell.
-/
import Derived.Test.YtcjngpgicegacaaUPureB
namespace Go.Proofs.Ytcjngpgicegacaa.U

/-- what n bytes would say; -1: nothing -/
def valGo : List Int → Nat → Int → Int
  | _, 0, v => v
  | [], _ + 1, v => v
  | c :: cs, k + 1, v => if c < 128 ∨ 191 < c then -1 else valGo cs k (v * 64 + c - 128)
def val0 (c : Int) (n : Nat) : Int := if n = 2 then c - 192 else if n = 3 then c - 224 else if n = 4 then c - 240 else c
/-- the value, before it is asked whether it is in range; -1000000 where a byte is wrong -/
def valueV (b : List Int) (n : Nat) : Int :=
  let v := valGo (b.drop 1) (n - 1) (val0 (b.getD 0 0) n)
  if v < 0 ∨ 1114111 < v then -1 else v

/-- a scalar whose bytes are the first n of b? -/
def hit (b : List Int) (n : Nat) : Prop := 0 ≤ valueV b n ∧ validB (valueV b n) = true ∧ encB (valueV b n) = b.take n

theorem valGo_enc2 (c1 v : Int) (rest : List Int) (h1 : 128 ≤ c1) (h2 : c1 ≤ 191) (k : Nat) : valGo (c1 :: rest) (k + 1) v = valGo rest k (v * 64 + c1 - 128) := by
  simp only [valGo]; rw [if_neg (by omega)]
theorem valGo_zero (l : List Int) (v : Int) : valGo l 0 v = v := by cases l <;> rfl

theorem value_enc (r : Int) (h : validB r = true) (rest : List Int) : valueV (encB r ++ rest) (encB r).length = r := by
  unfold validB at h
  simp only [decide_eq_true_eq] at h
  unfold valueV
  by_cases c1 : r ≤ 127
  · have he : encB r = [r] := by unfold encB; rw [if_pos c1]
    rw [he]
    simp [val0, valGo_zero]; omega
  by_cases c2 : r ≤ 2047
  · have he : encB r = [192 + r / 64, 128 + r % 64] := by unfold encB; rw [if_neg c1, if_pos c2]
    rw [he]
    simp only [List.cons_append, List.nil_append, List.length_cons, List.length_nil, List.drop_succ_cons, List.drop_zero, List.getD_cons_zero, val0]
    simp only [Nat.zero_add, Nat.reduceAdd, Nat.reduceSub, ↓reduceIte]
    rw [valGo_enc2 _ _ _ (by omega) (by omega), valGo_zero, if_neg (by omega)]; omega
  by_cases c3 : r ≤ 65535
  · have he : encB r = [224 + r / 4096, 128 + r / 64 % 64, 128 + r % 64] := by unfold encB; rw [if_neg c1, if_neg c2, if_pos c3]
    rw [he]
    simp only [List.cons_append, List.nil_append, List.length_cons, List.length_nil, List.drop_succ_cons, List.drop_zero, List.getD_cons_zero, val0]
    simp only [Nat.zero_add, Nat.reduceAdd, Nat.reduceSub, ↓reduceIte, Nat.reduceEqDiff]
    rw [valGo_enc2 _ _ _ (by omega) (by omega), valGo_enc2 _ _ _ (by omega) (by omega), valGo_zero, if_neg (by omega)]; omega
  · have he : encB r = [240 + r / 262144, 128 + r / 4096 % 64, 128 + r / 64 % 64, 128 + r % 64] := by unfold encB; rw [if_neg c1, if_neg c2, if_neg c3]
    rw [he]
    simp only [List.cons_append, List.nil_append, List.length_cons, List.length_nil, List.drop_succ_cons, List.drop_zero, List.getD_cons_zero, val0]
    simp only [Nat.zero_add, Nat.reduceAdd, Nat.reduceSub, ↓reduceIte, Nat.reduceEqDiff]
    rw [valGo_enc2 _ _ _ (by omega) (by omega), valGo_enc2 _ _ _ (by omega) (by omega), valGo_enc2 _ _ _ (by omega) (by omega), valGo_zero, if_neg (by omega)]; omega

/-- b begins with a scalar's bytes -/
theorem hit_next {b : List Int} {n : Nat} (h : hit b n) : nextV b = (valueV b n, ((encB (valueV b n)).length : Int), false) := by
  obtain ⟨_, h1, h2⟩ := h
  have hb : b = encB (valueV b n) ++ b.drop n := by rw [h2]; exact (List.take_append_drop n b).symm
  have h3 := nextV_enc (valueV b n) h1 (b.drop n)
  rw [← hb] at h3
  exact h3
theorem hit_len {b : List Int} {n : Nat} (hn : n ≤ b.length) (h : hit b n) : (encB (valueV b n)).length = n := by rw [h.2.2]; simp; omega
theorem hit_enc (r : Int) (h : validB r = true) (rest : List Int) : hit (encB r ++ rest) (encB r).length := by
  have hv := value_enc r h rest
  refine ⟨?_, ?_, ?_⟩
  · rw [hv]; unfold validB at h; simp only [decide_eq_true_eq] at h; omega
  · rw [hv]; exact h
  · rw [hv]; simp
/-- there is one hit at most -/
theorem hit_one {b : List Int} {m n : Nat} (hm : m ≤ b.length) (hn : n ≤ b.length) (h1 : hit b m) (h2 : hit b n) : m = n := by
  have a1 := hit_next h1
  have a2 := hit_next h2
  rw [a1] at a2
  simp only [Prod.mk.injEq] at a2
  have l1 := hit_len hm h1
  have l2 := hit_len hn h2
  omega

theorem nextGo_inv (l : List Int) (k : Nat) (r lo hi n R N : Int) (h : nextGo l (k + 1) r lo hi n = (R, N, false)) :
    (R = 65533 ∧ N = 1) ∨ ∃ c cs, l = c :: cs ∧ lo ≤ c ∧ c ≤ hi ∧ nextGo cs k (r * 64 + c % 64) 128 191 n = (R, N, false) := by
  cases l with
  | nil => simp [nextGo] at h
  | cons c cs =>
    simp only [nextGo] at h
    split at h
    · simp only [Prod.mk.injEq] at h; left; omega
    · right; exact ⟨c, cs, rfl, by omega, by omega, h⟩

/-- what Next tells is a scalar with its bytes, or FFFD for one byte -/
theorem next_inv {b : List Int} {R N : Int} (h : nextV b = (R, N, false)) (hb : ∀ x ∈ b, 0 ≤ x ∧ x ≤ 255) :
    (R = 65533 ∧ N = 1) ∨ (validB R = true ∧ ∃ rest, b = encB R ++ rest ∧ N = ((encB R).length : Int)) := by
  cases b with
  | nil => simp [nextV] at h
  | cons c cs =>
    have hc := hb c (by simp)
    simp only [nextV] at h
    split at h
    · simp only [Prod.mk.injEq] at h; left; omega
    rename_i e0
    split at h
    · rename_i e1
      simp only [Prod.mk.injEq] at h
      obtain ⟨rfl, rfl, _⟩ := h
      have hc7 : c ≤ 127 := by unfold leadN at e1; repeat' split at e1 <;> omega
      right
      refine ⟨by unfold validB; simp; omega, cs, ?_, ?_⟩
      · unfold encB; rw [if_pos hc7]; rfl
      · unfold encB; rw [if_pos hc7]; rfl
    · rename_i e1
      have hl := leadN_in c
      have hk : leadN c = 2 ∨ leadN c = 3 ∨ leadN c = 4 := by omega
      rcases hk with hk | hk | hk
      · have hc2 : 194 ≤ c ∧ c ≤ 223 := by unfold leadN at hk; repeat' split at hk <;> omega
        have hL : leadL c = 128 := by unfold leadL; repeat' split <;> omega
        have hM : leadM c = 191 := by unfold leadM; repeat' split <;> omega
        have hF : firstBits c 2 = c % 32 := by unfold firstBits; rw [if_pos rfl]
        rw [hk, hL, hM, hF] at h
        rcases nextGo_inv _ _ _ _ _ _ _ _ h with h | ⟨d, ds, rfl, d1, d2, h⟩
        · left; exact h
        rw [nextGo_zero] at h
        simp only [Prod.mk.injEq] at h
        obtain ⟨rfl, rfl, _⟩ := h
        right
        have he : encB (c % 32 * 64 + d % 64) = [c, d] := by
          unfold encB; rw [if_neg (by omega), if_pos (by omega)]
          rw [show 192 + (c % 32 * 64 + d % 64) / 64 = c from by omega, show 128 + (c % 32 * 64 + d % 64) % 64 = d from by omega]
        exact ⟨by unfold validB; simp; omega, ds, by rw [he]; rfl, by rw [he]; rfl⟩
      · have hc2 : 224 ≤ c ∧ c ≤ 239 := by unfold leadN at hk; repeat' split at hk <;> omega
        have hL : (c = 224 → leadL c = 160) ∧ (c ≠ 224 → leadL c = 128) := by
          constructor
          · intro e; subst e; decide
          · intro e; unfold leadL; repeat' split <;> omega
        have hM : (c = 237 → leadM c = 159) ∧ leadM c ≤ 191 := by
          constructor
          · intro e; subst e; decide
          · unfold leadM; repeat' split <;> omega
        have hF : firstBits c 3 = c % 16 := by unfold firstBits; rw [if_neg (by omega), if_pos rfl]
        rw [hk, hF] at h
        rcases nextGo_inv _ _ _ _ _ _ _ _ h with h | ⟨d, ds, rfl, d1, d2, h⟩
        · left; exact h
        rcases nextGo_inv _ _ _ _ _ _ _ _ h with h | ⟨e, es, rfl, f1, f2, h⟩
        · left; exact h
        rw [nextGo_zero] at h
        simp only [Prod.mk.injEq] at h
        obtain ⟨rfl, rfl, _⟩ := h
        right
        have hd : 128 ≤ d ∧ d ≤ 191 ∧ (c = 224 → 160 ≤ d) ∧ (c = 237 → d ≤ 159) := by
          by_cases q : c = 224
          · have := hL.1 q; omega
          · have := hL.2 q; omega
        have he : encB ((c % 16 * 64 + d % 64) * 64 + e % 64) = [c, d, e] := by
          unfold encB; rw [if_neg (by omega), if_neg (by omega), if_pos (by omega)]
          rw [show 224 + ((c % 16 * 64 + d % 64) * 64 + e % 64) / 4096 = c from by omega, show 128 + ((c % 16 * 64 + d % 64) * 64 + e % 64) / 64 % 64 = d from by omega, show 128 + ((c % 16 * 64 + d % 64) * 64 + e % 64) % 64 = e from by omega]
        exact ⟨by unfold validB; simp; omega, es, by rw [he]; rfl, by rw [he]; rfl⟩
      · have hc2 : 240 ≤ c ∧ c ≤ 244 := by unfold leadN at hk; repeat' split at hk <;> omega
        have hL : (c = 240 → leadL c = 144) ∧ (c ≠ 240 → leadL c = 128) := by
          constructor
          · intro e; subst e; decide
          · intro e; unfold leadL; repeat' split <;> omega
        have hM : (c = 244 → leadM c = 143) ∧ leadM c ≤ 191 := by
          constructor
          · intro e; subst e; decide
          · unfold leadM; repeat' split <;> omega
        have hF : firstBits c 4 = c % 8 := by unfold firstBits; rw [if_neg (by omega), if_neg (by omega)]
        rw [hk, hF] at h
        rcases nextGo_inv _ _ _ _ _ _ _ _ h with h | ⟨d, ds, rfl, d1, d2, h⟩
        · left; exact h
        rcases nextGo_inv _ _ _ _ _ _ _ _ h with h | ⟨e, es, rfl, f1, f2, h⟩
        · left; exact h
        rcases nextGo_inv _ _ _ _ _ _ _ _ h with h | ⟨g, gs, rfl, g1, g2, h⟩
        · left; exact h
        rw [nextGo_zero] at h
        simp only [Prod.mk.injEq] at h
        obtain ⟨rfl, rfl, _⟩ := h
        right
        have hd : 128 ≤ d ∧ d ≤ 191 ∧ (c = 240 → 144 ≤ d) ∧ (c = 244 → d ≤ 143) := by
          by_cases q : c = 240
          · have := hL.1 q; omega
          · have := hL.2 q; omega
        have he : encB (((c % 8 * 64 + d % 64) * 64 + e % 64) * 64 + g % 64) = [c, d, e, g] := by
          unfold encB; rw [if_neg (by omega), if_neg (by omega), if_neg (by omega)]
          rw [show 240 + (((c % 8 * 64 + d % 64) * 64 + e % 64) * 64 + g % 64) / 262144 = c from by omega, show 128 + (((c % 8 * 64 + d % 64) * 64 + e % 64) * 64 + g % 64) / 4096 % 64 = d from by omega,
            show 128 + (((c % 8 * 64 + d % 64) * 64 + e % 64) * 64 + g % 64) / 64 % 64 = e from by omega, show 128 + (((c % 8 * 64 + d % 64) * 64 + e % 64) * 64 + g % 64) % 64 = g from by omega]
        exact ⟨by unfold validB; simp; omega, gs, by rw [he]; rfl, by rw [he]; rfl⟩

end Go.Proofs.Ytcjngpgicegacaa.U
