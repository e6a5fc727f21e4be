/-
  Plain mathematics of UTF-8 over lists of numbers: what the program's layer 1 computes, and what the document's plain answer computes. No program here.
-/
import Derived.WalkKit
namespace Go.Proofs.Ytcjngpgicegacaa.U

/-- a scalar? -/
def validB (r : Int) : Bool := decide ((0 ≤ r ∧ r < 55296) ∨ (57343 < r ∧ r ≤ 1114111))
def scal (r : Int) : Int := if validB r = true then r else 65533
def lenV (r : Int) : Int := if scal r ≤ 127 then 1 else if scal r ≤ 2047 then 2 else if scal r ≤ 65535 then 3 else 4

def leadN (c : Int) : Int :=
  if c ≤ 127 then 1 else if c < 194 then 0 else if c ≤ 223 then 2 else if c ≤ 239 then 3 else if c ≤ 244 then 4 else 0
def leadL (c : Int) : Int :=
  if c ≤ 127 then 0 else if c < 194 then 0 else if c ≤ 223 then 128 else if c = 224 then 160 else if c = 237 then 128 else if c ≤ 239 then 128 else if c = 240 then 144 else if c ≤ 244 then 128 else 0
def leadM (c : Int) : Int :=
  if c ≤ 127 then 0 else if c < 194 then 0 else if c ≤ 223 then 191 else if c = 224 then 191 else if c = 237 then 159 else if c ≤ 239 then 191 else if c = 240 then 191 else if c < 244 then 191 else if c = 244 then 143 else 0

/-- the bytes of a scalar -/
def encB (r : Int) : List Int :=
  if r ≤ 127 then [r] else if r ≤ 2047 then [192 + r / 64, 128 + r % 64]
  else if r ≤ 65535 then [224 + r / 4096, 128 + r / 64 % 64, 128 + r % 64]
  else [240 + r / 262144, 128 + r / 4096 % 64, 128 + r / 64 % 64, 128 + r % 64]
def encV (l : List Int) : List Int := l.flatMap fun r => encB (scal r)

/-- the rest of the bytes of a scalar: k of them, the first between lo and hi -/
def nextGo : List Int → Nat → Int → Int → Int → Int → Int × Int × Bool
  | _, 0, r, _, _, n => (r, n, false)
  | [], _ + 1, _, _, _, _ => (0, 0, true)
  | c :: cs, k + 1, r, lo, hi, n => if c < lo ∨ hi < c then (65533, 1, false) else nextGo cs k (r * 64 + c % 64) 128 191 n

def firstBits (c n : Int) : Int := if n = 2 then c % 32 else if n = 3 then c % 16 else c % 8

def nextV : List Int → Int × Int × Bool
  | [] => (0, 0, true)
  | c :: cs => if leadN c = 0 then (65533, 1, false) else if leadN c = 1 then (c, 1, false)
      else nextGo cs ((leadN c).toNat - 1) (firstBits c (leadN c)) (leadL c) (leadM c) (leadN c)

/-- what a feeder tells of bytes, and what it holds then; by fuel -/
def feedN : Nat → List Int → List Int × List Int
  | 0, b => ([], b)
  | f + 1, b => match nextV b with
    | (_, _, true) => ([], b)
    | (r, n, false) => let x := feedN f (b.drop n.toNat); (r :: x.1, x.2)
def feedV (b : List Int) : List Int × List Int := feedN (b.length + 1) b
def decV (b : List Int) : List Int := (feedV b).1 ++ List.replicate (feedV b).2.length 65533

theorem scal_in (r : Int) : 0 ≤ scal r ∧ scal r ≤ 1114111 := by
  unfold scal validB
  split
  · rename_i h; simp only [decide_eq_true_eq] at h; omega
  · omega
theorem scal_valid (r : Int) : validB (scal r) = true := by
  by_cases h : validB r = true
  · have : scal r = r := by unfold scal; rw [if_pos h]
    rw [this]; exact h
  · have : scal r = 65533 := by unfold scal; rw [if_neg h]
    rw [this]; decide
theorem scal_of_valid {r : Int} (h : validB r = true) : scal r = r := by unfold scal; rw [if_pos h]
theorem scal_scal (r : Int) : scal (scal r) = scal r := scal_of_valid (scal_valid r)
theorem lenV_eq (r : Int) : lenV r = (encB (scal r)).length := by
  unfold lenV encB
  by_cases h1 : scal r ≤ 127 <;> by_cases h2 : scal r ≤ 2047 <;> by_cases h3 : scal r ≤ 65535 <;> simp [h1, h2, h3]
theorem encB_len (r : Int) : 1 ≤ (encB r).length ∧ (encB r).length ≤ 4 := by
  unfold encB
  by_cases h1 : r ≤ 127 <;> by_cases h2 : r ≤ 2047 <;> by_cases h3 : r ≤ 65535 <;> simp [h1, h2, h3]
theorem encB_bytes (r : Int) (h0 : 0 ≤ r) (h1 : r ≤ 1114111) : ∀ x ∈ encB r, 0 ≤ x ∧ x ≤ 255 := by
  unfold encB
  intro x hx
  split at hx
  · simp only [List.mem_singleton] at hx; omega
  split at hx
  · simp only [List.mem_cons, List.not_mem_nil, or_false] at hx; omega
  split at hx
  · simp only [List.mem_cons, List.not_mem_nil, or_false] at hx; omega
  · simp only [List.mem_cons, List.not_mem_nil, or_false] at hx; omega

theorem take_snoc (xs : List Int) (k : Nat) (hk : k < xs.length) : xs.take (k + 1) = xs.take k ++ [xs.getD k 0] := by
  rw [List.take_add_one, List.getElem?_eq_getElem hk, List.getD_eq_getElem?_getD, List.getElem?_eq_getElem hk]; rfl
theorem encV_snoc (l : List Int) (r : Int) : encV (l ++ [r]) = encV l ++ encB (scal r) := by simp [encV]
theorem encV_len (l : List Int) : (encV l).length ≤ 4 * l.length := by
  induction l with
  | nil => simp [encV]
  | cons r l ih => have := (encB_len (scal r)).2; simp only [encV, List.flatMap_cons, List.length_append, List.length_cons] at *; omega
theorem encV_bytes (l : List Int) : ∀ x ∈ encV l, 0 ≤ x ∧ x ≤ 255 := by
  intro x hx
  simp only [encV, List.mem_flatMap] at hx
  obtain ⟨r, _, hx⟩ := hx
  exact encB_bytes _ (scal_in r).1 (scal_in r).2 x hx

theorem drop_getD (xs : List Int) (k : Nat) (hk : k < xs.length) : xs.drop k = xs.getD k 0 :: xs.drop (k + 1) := by
  rw [List.drop_eq_getElem_cons hk, List.getD_eq_getElem?_getD, List.getElem?_eq_getElem hk]; rfl
theorem nextGo_zero (l : List Int) (r lo hi n : Int) : nextGo l 0 r lo hi n = (r, n, false) := by cases l <;> rfl
theorem nextV_many (xs : List Int) (n : Nat) (h0 : 0 < xs.length) (hn : leadN (xs.getD 0 0) = n) (h2 : 2 ≤ n) :
    nextV xs = nextGo (xs.drop 1) (n - 1) (firstBits (xs.getD 0 0) n) (leadL (xs.getD 0 0)) (leadM (xs.getD 0 0)) n := by
  cases xs with
  | nil => simp at h0
  | cons c cs =>
    have hc : (c :: cs).getD 0 0 = c := rfl
    rw [hc] at hn ⊢
    have e1 : (leadN c).toNat - 1 = n - 1 := by rw [hn]; simp
    simp only [nextV]
    rw [if_neg (by omega), if_neg (by omega), e1, hn]
    rfl
theorem nextV_0 (xs : List Int) (h0 : 0 < xs.length) (hn : leadN (xs.getD 0 0) = 0) : nextV xs = (65533, 1, false) := by
  cases xs with
  | nil => simp at h0
  | cons c cs =>
    have hn' : leadN c = 0 := hn
    simp only [nextV]; rw [if_pos hn']
theorem nextV_1 (xs : List Int) (h0 : 0 < xs.length) (hn : leadN (xs.getD 0 0) = 1) : nextV xs = (xs.getD 0 0, 1, false) := by
  cases xs with
  | nil => simp at h0
  | cons c cs =>
    have hn' : leadN c = 1 := hn
    simp only [nextV]; rw [if_neg (by omega), if_pos hn']; rfl
/-- the bound on what has been read after k bytes -/
def rBd (k : Nat) (r : Int) : Prop := 0 ≤ r ∧ (k = 1 → r ≤ 63) ∧ (k = 2 → r ≤ 4095) ∧ (k = 3 → r ≤ 262143) ∧ r ≤ 16777215
theorem rBd_next {k : Nat} {r x : Int} (h : rBd k r) (h1 : 1 ≤ k) (h3 : k ≤ 3) : rBd (k + 1) (r * 64 + x % 64) := by
  unfold rBd at *
  omega
theorem rBd_in {k : Nat} {r : Int} (h : rBd k r) (h1 : 1 ≤ k) (h3 : k ≤ 3) : 0 ≤ r ∧ r ≤ 262143 := by
  unfold rBd at *
  omega
theorem go_done {xs : List Int} {k n : Nat} {r lo hi R N : Int} {M : Bool} (h : nextGo (xs.drop k) (n - k) r lo hi n = (R, N, M)) (hk : k = n) : r = R ∧ (n : Int) = N ∧ false = M := by
  subst hk
  rw [Nat.sub_self, nextGo_zero] at h
  simpa using h
theorem go_out {xs : List Int} {k n : Nat} {r lo hi R N : Int} {M : Bool} (h : nextGo (xs.drop k) (n - k) r lo hi n = (R, N, M)) (hk : k < n) (hl : k = xs.length) : 0 = R ∧ 0 = N ∧ true = M := by
  subst hl
  obtain ⟨d, hd⟩ : ∃ d, n - xs.length = d + 1 := ⟨n - xs.length - 1, by omega⟩
  rw [List.drop_length, hd] at h
  simpa [nextGo] using h
theorem go_bad {xs : List Int} {k n : Nat} {r lo hi R N : Int} {M : Bool} (h : nextGo (xs.drop k) (n - k) r lo hi n = (R, N, M)) (hk : k < n) (hl : k < xs.length) (hx : xs.getD k 0 < lo ∨ hi < xs.getD k 0) : 65533 = R ∧ 1 = N ∧ false = M := by
  obtain ⟨d, hd⟩ : ∃ d, n - k = d + 1 := ⟨n - k - 1, by omega⟩
  rw [drop_getD xs k hl, hd] at h
  simp only [nextGo] at h
  rw [if_pos hx] at h
  simpa using h
theorem go_on {xs : List Int} {k n : Nat} {r lo hi R N : Int} {M : Bool} (h : nextGo (xs.drop k) (n - k) r lo hi n = (R, N, M)) (hk : k < n) (hl : k < xs.length) (hx : ¬ (xs.getD k 0 < lo ∨ hi < xs.getD k 0)) :
    nextGo (xs.drop (k + 1)) (n - (k + 1)) (r * 64 + xs.getD k 0 % 64) 128 191 n = (R, N, M) := by
  obtain ⟨d, hd⟩ : ∃ d, n - k = d + 1 := ⟨n - k - 1, by omega⟩
  rw [drop_getD xs k hl, hd] at h
  simp only [nextGo] at h
  rw [if_neg hx] at h
  rw [show n - (k + 1) = d from by omega]
  exact h

theorem nextGo_out (l : List Int) (k : Nat) (r lo hi n R N : Int) (M : Bool) (h : nextGo l k r lo hi n = (R, N, M)) :
    (M = true → l.length < k ∧ R = 0 ∧ N = 0) ∧ (M = false → N = 1 ∨ (N = n ∧ k ≤ l.length)) := by
  induction k generalizing l r lo hi with
  | zero =>
    rw [nextGo_zero] at h
    simp only [Prod.mk.injEq] at h
    obtain ⟨rfl, rfl, rfl⟩ := h
    exact ⟨by simp, fun _ => .inr ⟨rfl, by omega⟩⟩
  | succ k ih =>
    cases l with
    | nil =>
      simp only [nextGo, Prod.mk.injEq] at h
      obtain ⟨rfl, rfl, rfl⟩ := h
      simp
    | cons c cs =>
      simp only [nextGo] at h
      split at h
      · simp only [Prod.mk.injEq] at h
        obtain ⟨rfl, rfl, rfl⟩ := h
        simp
      · have := ih cs _ _ _ h
        refine ⟨fun hm => ?_, fun hm => ?_⟩
        · have := this.1 hm; simp; omega
        · have := this.2 hm; simp; omega
theorem leadN_in (c : Int) : 0 ≤ leadN c ∧ leadN c ≤ 4 := by
  constructor
  · unfold leadN; repeat' split <;> omega
  · unfold leadN; repeat' split <;> omega
theorem nextV_out {b : List Int} {R N : Int} {M : Bool} (h : nextV b = (R, N, M)) :
    (M = true → b.length ≤ 3 ∧ R = 0 ∧ N = 0) ∧ (M = false → 1 ≤ N ∧ N ≤ b.length ∧ N ≤ 4) := by
  cases b with
  | nil =>
    simp only [nextV, Prod.mk.injEq] at h
    obtain ⟨rfl, rfl, rfl⟩ := h
    simp
  | cons c cs =>
    have hl := leadN_in c
    simp only [nextV] at h
    split at h
    · simp only [Prod.mk.injEq] at h
      obtain ⟨rfl, rfl, rfl⟩ := h
      simp; omega
    split at h
    · simp only [Prod.mk.injEq] at h
      obtain ⟨rfl, rfl, rfl⟩ := h
      simp; omega
    · have := nextGo_out _ _ _ _ _ _ _ _ _ h
      refine ⟨fun hm => ?_, fun hm => ?_⟩
      · have := this.1 hm; simp; omega
      · have := this.2 hm; simp; omega

theorem feedN_fuel (f : Nat) : ∀ (g : Nat) (b : List Int), b.length < f → b.length < g → feedN f b = feedN g b := by
  induction f with
  | zero => intro g b h; omega
  | succ f ih =>
    intro g b h1 h2
    cases g with
    | zero => omega
    | succ g =>
      simp only [feedN]
      rcases hx : nextV b with ⟨r, n, m⟩
      cases m with
      | true => rfl
      | false =>
        have hn := (nextV_out hx).2 rfl
        have hd : (b.drop n.toNat).length < b.length := by simp; omega
        simp only
        rw [ih g (b.drop n.toNat) (by omega) (by omega)]
theorem feedV_more {b : List Int} {r n : Int} (h : nextV b = (r, n, true)) : feedV b = ([], b) := by
  simp only [feedV, feedN, h]
theorem feedV_step {b : List Int} {r n : Int} (h : nextV b = (r, n, false)) : feedV b = (r :: (feedV (b.drop n.toNat)).1, (feedV (b.drop n.toNat)).2) := by
  have hn := (nextV_out h).2 rfl
  have hd : (b.drop n.toNat).length < b.length := by simp; omega
  simp only [feedV]
  rw [feedN, h]
  simp only
  rw [feedN_fuel b.length ((b.drop n.toNat).length + 1) (b.drop n.toNat) hd (by omega)]

end Go.Proofs.Ytcjngpgicegacaa.U
