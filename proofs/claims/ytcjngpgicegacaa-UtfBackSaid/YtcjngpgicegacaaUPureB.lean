/-
  Plain mathematics of UTF-8: what is written is read as it was; bytes in pieces.
-/
import Derived.Test.YtcjngpgicegacaaUPure
namespace Go.Proofs.Ytcjngpgicegacaa.U

theorem lead_facts (c n l m : Int) (hn : leadN c = n) (hl : leadL c = l) (hm : leadM c = m) : leadN c = n ∧ leadL c = l ∧ leadM c = m := ⟨hn, hl, hm⟩

theorem nextV_cons (c : Int) (cs : List Int) (n l m f : Int) (k : Nat) (hn : leadN c = n) (h2 : 2 ≤ n) (hk : n.toNat - 1 = k) (hl : leadL c = l) (hm : leadM c = m) (hf : firstBits c n = f) :
    nextV (c :: cs) = nextGo cs k f l m n := by
  simp only [nextV]
  rw [hn, hl, hm, hf, hk, if_neg (by omega), if_neg (by omega)]
theorem nextGo_cons {c : Int} {cs : List Int} {k : Nat} {r lo hi n : Int} (h1 : lo ≤ c) (h2 : c ≤ hi) : nextGo (c :: cs) (k + 1) r lo hi n = nextGo cs k (r * 64 + c % 64) 128 191 n := by
  simp only [nextGo]
  rw [if_neg (by omega)]

theorem nextV_enc (r : Int) (h : validB r = true) (rest : List Int) : nextV (encB r ++ rest) = (r, ((encB r).length : Int), false) := by
  unfold validB at h
  simp only [decide_eq_true_eq] at h
  by_cases c1 : r ≤ 127
  · have he : encB r = [r] := by unfold encB; rw [if_pos c1]
    rw [he]
    simp only [List.cons_append, List.nil_append, nextV]
    have hn : leadN r = 1 := by unfold leadN; rw [if_pos c1]
    rw [hn]; simp
  by_cases c2 : r ≤ 2047
  · have he : encB r = [192 + r / 64, 128 + r % 64] := by unfold encB; rw [if_neg c1, if_pos c2]
    rw [he]
    simp only [List.cons_append, List.nil_append]
    rw [nextV_cons _ _ 2 128 191 (r / 64) 1 (by unfold leadN; repeat' split <;> omega) (by omega) rfl (by unfold leadL; repeat' split <;> omega) (by unfold leadM; repeat' split <;> omega)
      (by unfold firstBits; rw [if_pos rfl]; omega), nextGo_cons (by omega) (by omega), nextGo_zero]
    simp only [Prod.mk.injEq, List.length_cons, List.length_nil]
    exact ⟨by omega, by simp, trivial⟩
  by_cases c3 : r ≤ 65535
  · have he : encB r = [224 + r / 4096, 128 + r / 64 % 64, 128 + r % 64] := by unfold encB; rw [if_neg c1, if_neg c2, if_pos c3]
    rw [he]
    simp only [List.cons_append, List.nil_append]
    have hl : leadL (224 + r / 4096) ≤ 128 + r / 64 % 64 := by unfold leadL; repeat' split <;> omega
    have hm : 128 + r / 64 % 64 ≤ leadM (224 + r / 4096) := by unfold leadM; repeat' split <;> omega
    rw [nextV_cons _ _ 3 _ _ (r / 4096) 2 (by unfold leadN; repeat' split <;> omega) (by omega) rfl rfl rfl
      (by unfold firstBits; rw [if_neg (by omega), if_pos rfl]; omega), nextGo_cons hl hm, nextGo_cons (by omega) (by omega), nextGo_zero]
    simp only [Prod.mk.injEq, List.length_cons, List.length_nil]
    exact ⟨by omega, by simp, trivial⟩
  · have he : encB r = [240 + r / 262144, 128 + r / 4096 % 64, 128 + r / 64 % 64, 128 + r % 64] := by unfold encB; rw [if_neg c1, if_neg c2, if_neg c3]
    rw [he]
    simp only [List.cons_append, List.nil_append]
    have hl : leadL (240 + r / 262144) ≤ 128 + r / 4096 % 64 := by unfold leadL; repeat' split <;> omega
    have hm : 128 + r / 4096 % 64 ≤ leadM (240 + r / 262144) := by unfold leadM; repeat' split <;> omega
    rw [nextV_cons _ _ 4 _ _ (r / 262144) 3 (by unfold leadN; repeat' split <;> omega) (by omega) rfl rfl rfl
      (by unfold firstBits; rw [if_neg (by omega), if_neg (by omega)]; omega), nextGo_cons hl hm, nextGo_cons (by omega) (by omega), nextGo_cons (by omega) (by omega), nextGo_zero]
    simp only [Prod.mk.injEq, List.length_cons, List.length_nil]
    exact ⟨by omega, by simp, trivial⟩

theorem feedV_enc (l b : List Int) : feedV (encV l ++ b) = (l.map scal ++ (feedV b).1, (feedV b).2) := by
  induction l with
  | nil => simp [encV]
  | cons r l ih =>
    have h1 : encV (r :: l) ++ b = encB (scal r) ++ (encV l ++ b) := by simp [encV]
    rw [h1, feedV_step (nextV_enc (scal r) (scal_valid r) _)]
    have h2 : (encB (scal r) ++ (encV l ++ b)).drop ((encB (scal r)).length : Int).toNat = encV l ++ b := by simp
    rw [h2, ih]; simp
theorem decV_nil : decV [] = [] := by decide
theorem decV_enc_app (l b : List Int) : decV (encV l ++ b) = l.map scal ++ decV b := by
  unfold decV; rw [feedV_enc]; simp
theorem decV_enc (l : List Int) : decV (encV l) = l.map scal := by
  have h := decV_enc_app l []
  rw [List.append_nil, decV_nil, List.append_nil] at h
  exact h
theorem scal_wf (r : Int) : (Lit.int .i32 (scal r)).wf = true := by
  have := scal_in r
  simp [Lit.wf, IntKind.min, IntKind.max, IntKind.signed, IntKind.bits]; omega

theorem nextGo_bd (l : List Int) (k : Nat) (r lo hi n R N : Int) (M : Bool) (h : nextGo l k r lo hi n = (R, N, M)) (h0 : 0 ≤ r) (hb : (r + 1) * 64 ^ k ≤ 2147483648) : 0 ≤ R ∧ R ≤ 2147483647 := by
  induction k generalizing l r lo hi with
  | zero =>
    rw [nextGo_zero] at h
    simp only [Prod.mk.injEq] at h
    simp at hb
    omega
  | succ k ih =>
    cases l with
    | nil =>
      simp only [nextGo, Prod.mk.injEq] at h
      omega
    | cons c cs =>
      simp only [nextGo] at h
      split at h
      · simp only [Prod.mk.injEq] at h
        omega
      · refine ih cs _ _ _ h (by omega) (Int.le_trans ?_ hb)
        rw [Int.pow_succ, Int.mul_comm (64 ^ k) 64, ← Int.mul_assoc]
        exact Int.mul_le_mul_of_nonneg_right (by omega) (Int.pow_nonneg (by decide))
theorem nextV_bd {b : List Int} {R N : Int} {M : Bool} (h : nextV b = (R, N, M)) (hb : ∀ x ∈ b, 0 ≤ x ∧ x ≤ 255) : 0 ≤ R ∧ R ≤ 2147483647 := by
  cases b with
  | nil => simp only [nextV, Prod.mk.injEq] at h; omega
  | cons c cs =>
    have hc := hb c (by simp)
    simp only [nextV] at h
    split at h
    · simp only [Prod.mk.injEq] at h; omega
    split at h
    · simp only [Prod.mk.injEq] at h; omega
    · have hl := leadN_in c
      have hf : 0 ≤ firstBits c (leadN c) ∧ firstBits c (leadN c) ≤ 31 := by unfold firstBits; repeat' split <;> omega
      refine nextGo_bd _ _ _ _ _ _ _ _ _ h hf.1 ?_
      have hk : (leadN c).toNat - 1 = 0 ∨ (leadN c).toNat - 1 = 1 ∨ (leadN c).toNat - 1 = 2 ∨ (leadN c).toNat - 1 = 3 := by omega
      rcases hk with hk | hk | hk | hk <;> rw [hk] <;> simp <;> omega
theorem feedN_wf (f : Nat) : ∀ (b : List Int), (∀ x ∈ b, 0 ≤ x ∧ x ≤ 255) → (∀ x ∈ (feedN f b).1, (Lit.int .i32 x).wf = true) := by
  induction f with
  | zero => intro b hb x hx; simp [feedN] at hx
  | succ f ih =>
    intro b hb x hx
    simp only [feedN] at hx
    rcases hq : nextV b with ⟨r, n, m⟩
    rw [hq] at hx
    cases m with
    | true => simp at hx
    | false =>
      simp only [List.mem_cons] at hx
      rcases hx with rfl | hx
      · have := nextV_bd hq hb
        simp [Lit.wf, IntKind.min, IntKind.max, IntKind.signed, IntKind.bits]; omega
      · exact ih _ (fun y hy => hb y (List.mem_of_mem_drop hy)) x hx
theorem decV_wf (b : List Int) (hb : ∀ x ∈ b, 0 ≤ x ∧ x ≤ 255) : ∀ x ∈ decV b, (Lit.int .i32 x).wf = true := by
  intro x hx
  unfold decV at hx
  rcases List.mem_append.1 hx with hx | hx
  · exact feedN_wf _ b hb x hx
  · rw [List.mem_replicate] at hx; rw [hx.2]; decide
theorem decV_len (b : List Int) : (decV b).length ≤ b.length := by
  have h : ∀ f (b : List Int), (feedN f b).1.length + (feedN f b).2.length ≤ b.length := by
    intro f
    induction f with
    | zero => intro b; simp [feedN]
    | succ f ih =>
      intro b
      simp only [feedN]
      rcases hx : nextV b with ⟨r, n, m⟩
      cases m with
      | true => simp
      | false =>
        have hn := (nextV_out hx).2 rfl
        have := ih (b.drop n.toNat)
        simp at this ⊢
        omega
  have := h (b.length + 1) b
  unfold decV feedV
  simp
  omega
theorem byte_wf {x : Int} (h : 0 ≤ x ∧ x ≤ 255) : (Lit.int .u8 x).wf = true := by
  simp [Lit.wf, IntKind.min, IntKind.max, IntKind.signed, IntKind.bits]; omega

end Go.Proofs.Ytcjngpgicegacaa.U
