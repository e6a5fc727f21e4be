/-
  Plain mathematics of pieces. No program here.
-/
import Derived.Test.YtndlebopfojjeaaPFr
namespace Go.Proofs.Ytndlebopfojjeaa.U
open Go.RowKit
set_option linter.unusedVariables false
set_option linter.unusedSimpArgs false
set_option maxRecDepth 100000

structure Pc where
  ad : Bool
  fr : Nat
  to : Nat
deriving Inhabited

def Pc.len (p : Pc) : Nat := p.to - p.fr
def Pc.cells (p : Pc) : List Value := [.bool p.ad, .int .i64 p.fr, .int .i64 p.to]
def flatP (ps : List Pc) : List Value := ps.flatMap Pc.cells
theorem flatP_nil : flatP [] = [] := rfl
theorem flatP_append (ps qs : List Pc) : flatP (ps ++ qs) = flatP ps ++ flatP qs := by simp [flatP]
theorem flatP_cons (p : Pc) (ps : List Pc) : flatP (p :: ps) = p.cells ++ flatP ps := by simp [flatP]
theorem flatP_one (p : Pc) : flatP [p] = p.cells := by simp [flatP]
theorem flatP_len (ps : List Pc) : (flatP ps).length = ps.length * 3 := by
  induction ps with
  | nil => rfl
  | cons x r ih => rw [flatP_cons, List.length_append, ih]; simp [Pc.cells]; omega
theorem flatP_take : ∀ (ps : List Pc) (i : Nat), (flatP ps).take (i * 3) = flatP (ps.take i)
  | [], i => by simp [flatP]
  | p :: r, 0 => by simp [flatP]
  | p :: r, i + 1 => by
    rw [flatP_cons, List.take_succ_cons, flatP_cons, show (i + 1) * 3 = p.cells.length + i * 3 from by simp [Pc.cells]; omega, List.take_length_add_append, flatP_take r i]
theorem flatP_drop : ∀ (ps : List Pc) (i : Nat), (flatP ps).drop (i * 3) = flatP (ps.drop i)
  | [], i => by simp [flatP]
  | p :: r, 0 => by simp
  | p :: r, i + 1 => by
    rw [flatP_cons, List.drop_succ_cons, show (i + 1) * 3 = p.cells.length + i * 3 from by simp [Pc.cells]; omega, List.drop_length_add_append, flatP_drop r i]
theorem flatP_at (ps : List Pc) (i j : Nat) (p : Pc) (hp : ps[i]? = some p) (hj : j < 3) : (flatP ps)[i * 3 + j]? = p.cells[j]? := by
  have h : (flatP ps).drop (i * 3) = p.cells ++ flatP (ps.drop (i + 1)) := by
    obtain ⟨hi, e⟩ := List.getElem?_eq_some_iff.1 hp
    rw [flatP_drop, List.drop_eq_getElem_cons hi, flatP_cons, e]
  rw [← List.getElem?_drop, h, List.getElem?_append_left (by simp [Pc.cells]; omega)]
theorem flatP_one1 (ps : List Pc) : ∀ u ∈ flatP ps, u.oneCell' = true := by
  intro u hu
  simp only [flatP, List.mem_flatMap, Pc.cells] at hu
  obtain ⟨p, _, hu⟩ := hu
  simp only [List.mem_cons, List.not_mem_nil, or_false] at hu
  rcases hu with rfl | rfl | rfl <;> rfl

def sumL (ps : List Pc) : Nat := (ps.map Pc.len).sum
theorem sumL_nil : sumL [] = 0 := rfl
theorem sumL_cons (p : Pc) (ps : List Pc) : sumL (p :: ps) = p.len + sumL ps := by simp [sumL]
theorem sumL_append (ps qs : List Pc) : sumL (ps ++ qs) = sumL ps + sumL qs := by simp [sumL]
theorem sumL_split (ps : List Pc) (i : Nat) : sumL ps = sumL (ps.take i) + sumL (ps.drop i) := by rw [← sumL_append, List.take_append_drop]

def Pc.runes (fs gs : List Int) (p : Pc) : List Int := ((if p.ad then gs else fs).take p.to).drop p.fr
def cont (fs gs : List Int) (ps : List Pc) : List Int := ps.flatMap (Pc.runes fs gs)
theorem cont_nil (fs gs : List Int) : cont fs gs [] = [] := rfl
theorem cont_cons (fs gs : List Int) (p : Pc) (ps : List Pc) : cont fs gs (p :: ps) = p.runes fs gs ++ cont fs gs ps := by simp [cont]
theorem cont_append (fs gs : List Int) (ps qs : List Pc) : cont fs gs (ps ++ qs) = cont fs gs ps ++ cont fs gs qs := by simp [cont]

def Pc.ok (nf na : Nat) (p : Pc) : Prop := p.fr < p.to ∧ p.to ≤ (if p.ad then na else nf)
def oks (nf na : Nat) (ps : List Pc) : Prop := ∀ p ∈ ps, p.ok nf na
theorem oks.take {nf na ps} (h : oks nf na ps) (i : Nat) : oks nf na (ps.take i) := fun p hp => h p (List.mem_of_mem_take hp)
theorem oks.drop {nf na ps} (h : oks nf na ps) (i : Nat) : oks nf na (ps.drop i) := fun p hp => h p (List.mem_of_mem_drop hp)
theorem oks.append {nf na ps qs} (h : oks nf na ps) (k : oks nf na qs) : oks nf na (ps ++ qs) := fun p hp => (List.mem_append.1 hp).elim (h p) (k p)
theorem oks.mono {nf na na' ps} (h : oks nf na ps) (hn : na ≤ na') : oks nf na' ps := fun p hp => ⟨(h p hp).1, by have := (h p hp).2; split <;> simp_all; omega⟩
theorem oks.at_ {nf na ps} (h : oks nf na ps) {i : Nat} {p : Pc} (hp : ps[i]? = some p) : p.ok nf na := h p (List.mem_of_getElem? hp)

theorem runes_len {fs gs : List Int} {p : Pc} (h : p.ok fs.length gs.length) : (p.runes fs gs).length = p.len := by
  obtain ⟨h1, h2⟩ := h
  unfold Pc.runes Pc.len
  cases hb : p.ad <;> simp [hb] at h2 ⊢ <;> omega
theorem cont_len {fs gs : List Int} {ps : List Pc} (h : oks fs.length gs.length ps) : (cont fs gs ps).length = sumL ps := by
  induction ps with
  | nil => rfl
  | cons p r ih =>
    rw [cont_cons, List.length_append, sumL_cons, ih (fun q hq => h q (by simp [hq])), runes_len (h p (by simp))]
/-- more added behind changes nothing -/
theorem runes_more {fs gs xs : List Int} {p : Pc} (h : p.ok fs.length gs.length) : p.runes fs (gs ++ xs) = p.runes fs gs := by
  obtain ⟨h1, h2⟩ := h
  unfold Pc.runes
  cases hb : p.ad <;> simp [hb] at h2 ⊢
  rw [List.take_append_of_le_length h2]
theorem cont_more {fs gs xs : List Int} {ps : List Pc} (h : oks fs.length gs.length ps) : cont fs (gs ++ xs) ps = cont fs gs ps := by
  induction ps with
  | nil => rfl
  | cons p r ih => rw [cont_cons, cont_cons, ih (fun q hq => h q (by simp [hq])), runes_more (h p (by simp))]
/-- a piece is the two that lie one behind the other -/
theorem runes_cut {fs gs : List Int} {b : Bool} {f m t : Nat} (h1 : f ≤ m) (h2 : m ≤ t) : Pc.runes fs gs ⟨b, f, t⟩ = Pc.runes fs gs ⟨b, f, m⟩ ++ Pc.runes fs gs ⟨b, m, t⟩ := by
  unfold Pc.runes
  simp only
  generalize (if b = true then gs else fs) = l
  have e : l.take m = (l.take t).take m := by rw [List.take_take, Nat.min_eq_left h2]
  rw [e]
  generalize l.take t = k
  apply List.ext_getElem?
  intro i
  simp only [List.getElem?_drop, List.getElem?_append, List.length_drop, List.length_take, List.getElem?_take]
  by_cases hi : i < min m k.length - f
  · rw [if_pos hi, if_pos (by omega)]
  · rw [if_neg hi]
    by_cases hk : m ≤ k.length
    · congr 1; omega
    · rw [List.getElem?_eq_none (by omega), List.getElem?_eq_none (by omega)]

/-- which piece has a rune, and which of its runes it is -/
def findM : List Pc → Nat → Nat × Nat
  | [], _ => (0, 0)
  | p :: r, n => if n < p.len then (0, n) else ((findM r (n - p.len)).1 + 1, (findM r (n - p.len)).2)
theorem findM_spec : ∀ (ps : List Pc) (n : Nat), n ≤ sumL ps → (findM ps n).1 ≤ ps.length ∧ sumL (ps.take (findM ps n).1) + (findM ps n).2 = n ∧
    (∀ p, ps[(findM ps n).1]? = some p → (findM ps n).2 < p.len) ∧ ((findM ps n).1 = ps.length → (findM ps n).2 = 0)
  | [], n, h => by simp [findM, sumL] at h ⊢; omega
  | p :: r, n, h => by
    unfold findM
    rw [sumL_cons] at h
    by_cases hn : n < p.len
    · rw [if_pos hn]
      refine ⟨by simp, by simp [sumL], fun q hq => ?_, fun hl => by simp at hl⟩
      simp at hq; subst hq; exact hn
    · rw [if_neg hn]
      obtain ⟨h1, h2, h3, h4⟩ := findM_spec r (n - p.len) (by omega)
      refine ⟨by simpa using h1, ?_, fun q hq => h3 q (by simpa using hq), fun hl => h4 (by simpa using hl)⟩
      simp only [List.take_succ_cons, sumL_cons]
      omega
theorem findM_big (ps : List Pc) (n : Nat) (h : n < sumL ps) : (findM ps n).1 < ps.length := by
  obtain ⟨h1, h2, h3, h4⟩ := findM_spec ps n (by omega)
  by_cases e : (findM ps n).1 = ps.length
  · have := h4 e
    rw [e, List.take_length] at h2
    omega
  · omega

/-- a piece begins at a rune -/
def cutM (ps : List Pc) (n : Nat) : List Pc × Nat :=
  if (findM ps n).2 = 0 then (ps, (findM ps n).1) else
    (ps.take (findM ps n).1 ++ ⟨(ps.getD (findM ps n).1 default).ad, (ps.getD (findM ps n).1 default).fr, (ps.getD (findM ps n).1 default).fr + (findM ps n).2⟩ ::
      ⟨(ps.getD (findM ps n).1 default).ad, (ps.getD (findM ps n).1 default).fr + (findM ps n).2, (ps.getD (findM ps n).1 default).to⟩ :: ps.drop ((findM ps n).1 + 1), (findM ps n).1 + 1)

theorem cutM_spec {fs gs : List Int} {ps : List Pc} {n : Nat} (h : oks fs.length gs.length ps) (hn : n ≤ sumL ps) :
    oks fs.length gs.length (cutM ps n).1 ∧ (cutM ps n).2 ≤ (cutM ps n).1.length ∧ sumL ((cutM ps n).1.take (cutM ps n).2) = n ∧ cont fs gs (cutM ps n).1 = cont fs gs ps ∧
    (cutM ps n).1.length ≤ ps.length + 1 ∧ ps.length ≤ (cutM ps n).1.length ∧ ∀ i, sumL (ps.take i) ≤ n → i ≤ ps.length → (cutM ps n).1.take i = ps.take i ∧ i ≤ (cutM ps n).2 := by
  obtain ⟨h1, h2, h3, h4⟩ := findM_spec ps n hn
  unfold cutM
  generalize findM ps n = q at h1 h2 h3 h4 ⊢
  obtain ⟨i, k⟩ := q
  simp only at h1 h2 h3 h4 ⊢
  have hpre : ∀ m, sumL (ps.take m) ≤ n → m ≤ ps.length → m ≤ i := by
    intro m hm hml
    by_cases hmi : m ≤ i
    · exact hmi
    · exfalso
      have hil : i < ps.length := by omega
      have hk := h3 ps[i] (List.getElem?_eq_getElem hil)
      have e : ps.take m = ps.take i ++ ps[i] :: (ps.take m).drop (i + 1) := by
        conv => lhs; rw [← List.take_append_drop i (ps.take m)]
        rw [List.take_take, Nat.min_eq_left (by omega), List.drop_eq_getElem_cons (by simp; omega)]
        simp
      rw [e, sumL_append, sumL_cons] at hm
      omega
  by_cases hk : k = 0
  · rw [if_pos hk]
    refine ⟨h, h1, by simp only; omega, rfl, by simp, Nat.le_refl _, fun m hm hml => ⟨rfl, hpre m hm hml⟩⟩
  · rw [if_neg hk]
    have hil : i < ps.length := by
      by_cases e : i = ps.length
      · exact absurd (h4 e) hk
      · omega
    have hg : ps.getD i default = ps[i] := by rw [List.getD_eq_getElem?_getD, List.getElem?_eq_getElem hil]; rfl
    rw [hg]
    have hkl := h3 ps[i] (List.getElem?_eq_getElem hil)
    have hok := h ps[i] (List.getElem_mem hil)
    have eps : ps = ps.take i ++ ps[i] :: ps.drop (i + 1) := by rw [← List.drop_eq_getElem_cons hil, List.take_append_drop]
    obtain ⟨p, hp⟩ : ∃ p, ps[i] = p := ⟨_, rfl⟩
    rw [hp] at hkl hok eps ⊢
    unfold Pc.len at hkl
    have hlt : (ps.take i).length = i := by simp; omega
    refine ⟨?_, ?_, ?_, ?_, ?_, ?_, ?_⟩
    · refine (h.take i).append (fun q hq => ?_)
      rcases List.mem_cons.1 hq with rfl | hq
      · exact ⟨by simp only; omega, by have := hok.2; simp only; clear eps; cases hb : p.ad <;> simp [hb] at this ⊢ <;> omega⟩
      · rcases List.mem_cons.1 hq with rfl | hq
        · exact ⟨by simp only; omega, hok.2⟩
        · exact h.drop (i + 1) q hq
    · simp; omega
    · simp only
      rw [List.take_append, hlt, List.take_of_length_le (by omega), show i + 1 - i = 1 from by omega]
      simp only [List.take_succ_cons, List.take_zero, sumL_append, sumL_cons, sumL_nil, Pc.len]
      omega
    · have hc : Pc.runes fs gs p = Pc.runes fs gs ⟨p.ad, p.fr, p.fr + k⟩ ++ Pc.runes fs gs ⟨p.ad, p.fr + k, p.to⟩ := runes_cut (by omega) (by omega)
      conv => rhs; rw [eps]
      simp only [cont_append, cont_cons, hc, List.append_assoc]
    · simp; omega
    · simp; omega
    · intro m hm hml
      have hmi := hpre m hm hml
      refine ⟨?_, by simp only; omega⟩
      simp only
      rw [List.take_append_of_le_length (by omega), List.take_take, Nat.min_eq_left hmi]

theorem cut_content {fs gs : List Int} {ps : List Pc} {n : Nat} (h : oks fs.length gs.length ps) (hn : n ≤ sumL ps) :
    cont fs gs ((cutM ps n).1.take (cutM ps n).2) = (cont fs gs ps).take n ∧ cont fs gs ((cutM ps n).1.drop (cutM ps n).2) = (cont fs gs ps).drop n := by
  obtain ⟨h1, h2, h3, h4, _⟩ := cutM_spec h hn
  have hl : (cont fs gs ((cutM ps n).1.take (cutM ps n).2)).length = n := by rw [cont_len (h1.take _), h3]
  have e : cont fs gs ps = cont fs gs ((cutM ps n).1.take (cutM ps n).2) ++ cont fs gs ((cutM ps n).1.drop (cutM ps n).2) := by rw [← cont_append, List.take_append_drop, h4]
  rw [e]
  generalize cont fs gs ((cutM ps n).1.take (cutM ps n).2) = A at hl ⊢
  generalize cont fs gs ((cutM ps n).1.drop (cutM ps n).2) = B
  subst hl
  exact ⟨by simp, by simp⟩

/-- a piece is put in -/
def joinB (ps : List Pc) (j : Nat) (p : Pc) : Bool := decide (0 < j) && (((ps.getD (j - 1) default).ad == p.ad) && decide ((ps.getD (j - 1) default).to = p.fr))
def putM (ps : List Pc) (n : Nat) (p : Pc) : List Pc :=
  if joinB (cutM ps n).1 (cutM ps n).2 p then (cutM ps n).1.set ((cutM ps n).2 - 1) ⟨((cutM ps n).1.getD ((cutM ps n).2 - 1) default).ad, ((cutM ps n).1.getD ((cutM ps n).2 - 1) default).fr, p.to⟩
  else (cutM ps n).1.take (cutM ps n).2 ++ p :: (cutM ps n).1.drop (cutM ps n).2

theorem putM_spec {fs gs : List Int} {ps : List Pc} {n : Nat} {p : Pc} (h : oks fs.length gs.length ps) (hn : n ≤ sumL ps) (hp : p.ok fs.length gs.length) :
    oks fs.length gs.length (putM ps n p) ∧ cont fs gs (putM ps n p) = (cont fs gs ps).take n ++ (p.runes fs gs ++ (cont fs gs ps).drop n) ∧ (putM ps n p).length ≤ ps.length + 2 ∧ 0 < (putM ps n p).length := by
  obtain ⟨h1, h2, h3, h4, h5, h6, _⟩ := cutM_spec h hn
  obtain ⟨c1, c2⟩ := cut_content h hn
  unfold putM
  generalize cutM ps n = q at h1 h2 h3 h4 h5 h6 c1 c2 ⊢
  obtain ⟨qs, j⟩ := q
  simp only at h1 h2 h3 h4 h5 h6 c1 c2 ⊢
  rw [← c1, ← c2]
  by_cases hb : joinB qs j p = true
  · rw [if_pos hb]
    simp only [joinB, Bool.and_eq_true, decide_eq_true_eq, beq_iff_eq] at hb
    obtain ⟨hj, hb1, hb2⟩ := hb
    have hl : j - 1 < qs.length := by omega
    have hg : qs.getD (j - 1) default = qs[j - 1] := by rw [List.getD_eq_getElem?_getD, List.getElem?_eq_getElem hl]; rfl
    have hok := h1 qs[j - 1] (List.getElem_mem hl)
    have e1 : qs.take j = qs.take (j - 1) ++ [qs[j - 1]] := by
      conv => lhs; rw [show j = (j - 1) + 1 from by omega]
      rw [List.take_succ_eq_append_getElem hl]
    rw [hg] at hb1 hb2 ⊢
    obtain ⟨x, hx⟩ : ∃ x, qs[j - 1] = x := ⟨_, rfl⟩
    rw [hx] at hb1 hb2 hok e1 ⊢
    have e2 : qs.set (j - 1) ⟨x.ad, x.fr, p.to⟩ = qs.take (j - 1) ++ ⟨x.ad, x.fr, p.to⟩ :: qs.drop j := by
      rw [List.set_eq_take_append_cons_drop, if_pos hl, show j - 1 + 1 = j from by omega]
    obtain ⟨ho1, ho2⟩ := hok
    obtain ⟨hp1, hp2⟩ := hp
    refine ⟨?_, ?_, by rw [List.length_set]; omega, by rw [List.length_set]; omega⟩
    · rw [e2]
      refine (h1.take _).append (fun q hq => ?_)
      rcases List.mem_cons.1 hq with rfl | hq
      · exact ⟨by simp only; omega, by simp only; rw [hb1]; exact hp2⟩
      · exact h1.drop _ q hq
    · rw [e2, e1]
      have hc : Pc.runes fs gs ⟨x.ad, x.fr, p.to⟩ = x.runes fs gs ++ p.runes fs gs := by
        rw [runes_cut (m := x.to) (by omega) (by omega)]
        have e3 : (⟨x.ad, x.to, p.to⟩ : Pc) = p := by rw [hb1, hb2]
        rw [e3]
      simp only [cont_append, cont_cons, cont_nil, hc, List.append_assoc, List.append_nil, List.nil_append]
  · rw [if_neg hb]
    refine ⟨?_, ?_, ?_, by simp; omega⟩
    · refine (h1.take _).append (fun q hq => ?_)
      rcases List.mem_cons.1 hq with rfl | hq
      · exact hp
      · exact h1.drop _ q hq
    · simp only [cont_append, cont_cons]
    · simp; omega

/-- runes are taken out -/
def dropM (ps : List Pc) (n m : Nat) : List Pc := (cutM (cutM ps n).1 (n + m)).1.take (cutM ps n).2 ++ (cutM (cutM ps n).1 (n + m)).1.drop (cutM (cutM ps n).1 (n + m)).2
theorem dropM_spec {fs gs : List Int} {ps : List Pc} {n m : Nat} (h : oks fs.length gs.length ps) (hn : n + m ≤ sumL ps) (hm : 0 < m) :
    oks fs.length gs.length (dropM ps n m) ∧ cont fs gs (dropM ps n m) = (cont fs gs ps).take n ++ (cont fs gs ps).drop (n + m) ∧ (dropM ps n m).length ≤ ps.length + 2 ∧
    (cutM ps n).2 < (cutM (cutM ps n).1 (n + m)).2 ∧ (cutM (cutM ps n).1 (n + m)).2 ≤ (cutM (cutM ps n).1 (n + m)).1.length := by
  obtain ⟨h1, h2, h3, h4, h5, h6, _⟩ := cutM_spec h (show n ≤ sumL ps by omega)
  obtain ⟨c1, c2⟩ := cut_content h (show n ≤ sumL ps by omega)
  have hs : sumL (cutM ps n).1 = sumL ps := by rw [← cont_len h1, h4, cont_len h]
  obtain ⟨k1, k2, k3, k4, k5, k6, k7⟩ := cutM_spec h1 (show n + m ≤ sumL (cutM ps n).1 by omega)
  obtain ⟨d1, d2⟩ := cut_content h1 (show n + m ≤ sumL (cutM ps n).1 by omega)
  obtain ⟨e1, e2⟩ := k7 (cutM ps n).2 (by omega) h2
  have hlt : (cutM ps n).2 < (cutM (cutM ps n).1 (n + m)).2 := by
    by_cases e : (cutM ps n).2 = (cutM (cutM ps n).1 (n + m)).2
    · rw [← e, e1, h3] at k3; omega
    · omega
  unfold dropM
  rw [e1]
  refine ⟨(h1.take _).append (k1.drop _), ?_, ?_, hlt, k2⟩
  · rw [cont_append, c1, d2, h4]
  · simp; omega
theorem empty_iff {fs gs : List Int} {ps : List Pc} (h : oks fs.length gs.length ps) : ps.length = 0 ↔ (cont fs gs ps).length = 0 := by
  cases ps with
  | nil => simp [cont]
  | cons p r =>
    have := runes_len (h p (by simp))
    have h2 := (h p (by simp)).1
    rw [cont_cons, List.length_append, this]
    unfold Pc.len
    simp only [List.length_cons]
    omega

/-- the answers, by the row alone -/
def hasB (len : Nat) (a n : Int) : Bool := decide (0 ≤ a) && (decide (0 ≤ n) && decide (n ≤ len - a))
def insM (L : List Int) (a : Int) (xs : List Int) : List Int × Int :=
  if hasB L.length a 0 then (if 65536 - (L.length : Int) < xs.length then (L, 3) else (L.take a.toNat ++ (xs ++ L.drop a.toNat), 0)) else (L, 2)
def delM (L : List Int) (a n : Int) : List Int × Int := if hasB L.length a n then (L.take a.toNat ++ L.drop (a.toNat + n.toNat), 0) else (L, 2)
def sliM (L : List Int) (a n : Int) : List Int × Int := if hasB L.length a n then ((L.drop a.toNat).take n.toNat, 0) else ([], 2)
theorem hasB_iff {len : Nat} {a n : Int} : hasB len a n = true ↔ 0 ≤ a ∧ 0 ≤ n ∧ a + n ≤ len := by simp [hasB]; omega
end Go.Proofs.Ytndlebopfojjeaa.U
