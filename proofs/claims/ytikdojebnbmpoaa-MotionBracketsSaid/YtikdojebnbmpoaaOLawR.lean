/-
  The laws of layer 10 about counts and what is sought in a line. No program here.
-/
import Derived.Test.YtikdojebnbmpoaaOLawQ
namespace Go.Proofs.Ytikdojebnbmpoaa.U
set_option linter.unusedVariables false
set_option linter.unusedSimpArgs false

-- f, t, F
theorem mvP_f (L : List (List Int)) (p : Pl) (m : Mo) (op : Bool) (h : m.key = 102) : mvP L p m op = (nthF (lnL L p.1) m.arg p.2 (tms m.cnt)).map fun i => ((p.1, i), 1) := by
  unfold mvP; rw [h]; rfl
theorem mvP_F (L : List (List Int)) (p : Pl) (m : Mo) (op : Bool) (h : m.key = 70) : mvP L p m op = (nthB (lnL L p.1) m.arg p.2 (tms m.cnt)).map fun i => ((p.1, i), 0) := by
  unfold mvP; rw [h]; rfl
theorem mvP_t (L : List (List Int)) (p : Pl) (m : Mo) (op : Bool) (h : m.key = 116) : mvP L p m op = (nthF (lnL L p.1) m.arg p.2 (tms m.cnt)).map fun i => ((p.1, i - 1), 1) := by
  unfold mvP; rw [h]; rfl
theorem find_law (L : List (List Int)) (p : Pl) (c a wt : Int) (hp : okP L p) :
    (mvR L p ⟨102, c, a, wt⟩ false = (p, 0, false) ∧ cntR (lnL L p.1) a (p.2 + 1) (lnL L p.1).length < tms c) ∨
    ∃ i, p.2 < i ∧ i < (lnL L p.1).length ∧ mvR L p ⟨102, c, a, wt⟩ false = ((p.1, i), 1, true) ∧ cntR (lnL L p.1) a (p.2 + 1) (i + 1) = tms c ∧ (lnL L p.1).getD i 0 = a ∧
      mvR L p ⟨116, c, a, wt⟩ false = ((p.1, i - 1), 1, true) ∧ ((lnL L p.1).getD p.2 0 = a → mvR L (p.1, i) ⟨70, c, a, wt⟩ false = (p, 0, true)) := by
  cases hn : nthF (lnL L p.1) a p.2 (tms c) with
  | none =>
    left
    refine ⟨?_, nthF_none (tms_pos c) hn⟩
    unfold mvR
    rw [mvP_f L p _ false rfl]
    simp only [hn]
    rfl
  | some i =>
    right
    obtain ⟨h1, h2, h3, h4⟩ := nthF_props hn
    refine ⟨i, h2, h1, ?_, h4, h3, ?_, fun hr => ?_⟩
    · unfold mvR
      rw [mvP_f L p _ false rfl]
      simp only [hn]
      rfl
    · unfold mvR
      rw [mvP_t L p _ false rfl]
      simp only [hn]
      rfl
    · have hc : cntR (lnL L p.1) a p.2 i = tms c := by
        have e1 := cntR_high (x := lnL L p.1) (r := a) (a := p.2 + 1) (b := i) (by omega) h1
        have e2 := cntR_split (lnL L p.1) a (a := p.2) (b := p.2 + 1) (c := i) (by omega) (by omega) (by omega)
        rw [cntR_one (by omega), if_pos hr] at e2
        rw [if_pos h3] at e1
        omega
      have hb := nthB_some (x := lnL L p.1) (r := a) (col := i) (n := tms c) (by omega) h2 hr hc
      unfold mvR
      rw [mvP_F L (p.1, i) _ false rfl]
      simp only [hb]
      rfl

-- counts
theorem stepsP_stop {g : Pl → Pl} {p : Pl} {i : Nat} (h : g (stepsP g i p p).1 = (stepsP g i p p).1) : ∀ d, (stepsP g (i + d) p p).1 = (stepsP g i p p).1
  | 0 => rfl
  | d + 1 => by rw [← Nat.add_assoc, stepsP_succ, stepsP_stop h d, h]
def Cnts (L : List (List Int)) (k : Int) (g : Pl → Pl) : Prop :=
  (∀ q, okP L q → okP L (g q)) ∧ (∀ q, okP L q → ∃ h, mvR L q ⟨k, 0, 0, 0⟩ false = (g q, h, decide (g q ≠ q))) ∧ (∀ p n, okP L p → 1 ≤ n → ∃ h, mvR L p ⟨k, (n : Nat), 0, 0⟩ false = ((stepsP g n p p).1, h, decide (g p ≠ p)))
theorem tms_nat {n : Nat} (h : 1 ≤ n) : tms (n : Int) = n := by unfold tms; omega
theorem tms_0 : tms 0 = 1 := rfl
theorem mvP_h (L : List (List Int)) (p : Pl) (m : Mo) (op : Bool) (h : m.key = 104) : mvP L p m op = if 0 < p.2 then some ((p.1, p.2 - tms m.cnt), 0) else none := by
  unfold mvP; rw [h]; rfl
theorem mvP_l (L : List (List Int)) (p : Pl) (m : Mo) (h : m.key = 108) : mvP L p m false = if p.2 < (lnL L p.1).length - 1 then some ((p.1, min (p.2 + tms m.cnt) ((lnL L p.1).length - 1)), 0) else none := by
  unfold mvP; rw [h]; rfl
theorem mvP_st (L : List (List Int)) (p : Pl) (m : Mo) {g : Pl → Pl} {h : Int} (hk : stepK L m.key = some (g, h)) : mvP L p m false = if g p = p then none else some ((stepsP g (tms m.cnt) p p).1, h) := by
  have hne : ∀ k : Int, stepK L k = none → m.key ≠ k := fun k e e2 => by rw [e2, e] at hk; cases hk
  unfold mvP
  rw [if_neg (hne 104 (by rfl)), if_neg (hne 108 (by rfl)), if_neg (hne 106 (by rfl)), if_neg (hne 107 (by rfl)), if_neg (hne 43 (by rfl)), if_neg (hne 45 (by rfl)), if_neg (hne 95 (by rfl)), if_neg (hne 71 (by rfl)), if_neg (hne 103 (by rfl)), if_neg (hne 48 (by rfl)), if_neg (hne 94 (by rfl)), if_neg (hne 36 (by rfl)), if_neg (hne 124 (by rfl)), if_neg (hne 102 (by rfl)), if_neg (hne 70 (by rfl)), if_neg (hne 116 (by rfl)), if_neg (hne 84 (by rfl)), if_neg (hne 37 (by rfl)), hk]
  simp
theorem steps_one {g : Pl → Pl} (q : Pl) : (stepsP g 1 q q).1 = g q := by rw [show 1 = 0 + 1 from rfl, stepsP_succ]; rfl
theorem cnts_st {L : List (List Int)} (hL : L ≠ []) {k : Int} {g : Pl → Pl} {h : Int} (hk : stepK L k = some (g, h)) : Cnts L k g := by
  refine ⟨fun q _ => stepK_ok hk hL q, fun q _ => ?_, fun p n _ hn => ?_⟩
  · unfold mvR
    rw [mvP_st L q ⟨k, 0, 0, 0⟩ hk]
    by_cases e : g q = q
    · rw [if_pos e]; exact ⟨0, by simp [e]⟩
    · rw [if_neg e]; exact ⟨h, by simp [e, tms_0, steps_one]⟩
  · unfold mvR
    rw [mvP_st L p ⟨k, (n : Nat), 0, 0⟩ hk]
    by_cases e : g p = p
    · rw [if_pos e, stepsP_still e]; exact ⟨0, by simp [e]⟩
    · rw [if_neg e]; exact ⟨h, by simp [e, tms_nat hn]⟩
def gH (q : Pl) : Pl := (q.1, q.2 - 1)
theorem steps_h (p : Pl) : ∀ n, (stepsP gH n p p).1 = (p.1, p.2 - n)
  | 0 => rfl
  | n + 1 => by rw [stepsP_succ, steps_h p n]; show (p.1, p.2 - n - 1) = _; rw [Nat.sub_sub]
theorem gH_ne (q : Pl) : decide (gH q ≠ q) = decide (0 < q.2) := by
  by_cases e : 0 < q.2
  · have : gH q ≠ q := fun h => by have := congrArg Prod.snd h; simp only [gH] at this; omega
    simp [e, this]
  · have : gH q = q := by unfold gH; exact Prod.ext rfl (by show q.2 - 1 = q.2; omega)
    simp [e, this]
theorem cnts_h (L : List (List Int)) : Cnts L 104 gH := by
  have key : ∀ (p : Pl) (c : Int) (n : Nat), tms c = n → ∃ h, mvR L p ⟨104, c, 0, 0⟩ false = ((stepsP gH n p p).1, h, decide (gH p ≠ p)) := by
    intro p c n hn
    refine ⟨0, ?_⟩
    unfold mvR
    rw [mvP_h L p _ false rfl, gH_ne, steps_h]
    simp only [hn]
    by_cases e : 0 < p.2
    · rw [if_pos e]; simp [e]
    · rw [if_neg e]
      simp only [e, decide_false]
      rw [show p.2 - n = p.2 by omega]
  refine ⟨fun q hq => ⟨hq.1, by have := hq.2; show q.2 - 1 ≤ (lnL L q.1).length - 1; omega⟩, fun q _ => ?_, fun p n _ hn => key p _ n (tms_nat hn)⟩
  obtain ⟨h, e⟩ := key q 0 1 rfl
  rw [steps_one] at e
  exact ⟨h, e⟩
def gL (L : List (List Int)) (q : Pl) : Pl := (q.1, min (q.2 + 1) ((lnL L q.1).length - 1))
theorem steps_l (L : List (List Int)) {p : Pl} (hp : okP L p) : ∀ n, (stepsP (gL L) n p p).1 = (p.1, min (p.2 + n) ((lnL L p.1).length - 1))
  | 0 => by
    show p = _
    have := hp.2
    exact Prod.ext rfl (by show p.2 = min (p.2 + 0) _; omega)
  | n + 1 => by
    rw [stepsP_succ, steps_l L hp n]
    unfold gL
    exact Prod.ext rfl (by show min (min (p.2 + n) ((lnL L p.1).length - 1) + 1) ((lnL L p.1).length - 1) = min (p.2 + (n + 1)) ((lnL L p.1).length - 1); omega)
theorem gL_ne {L : List (List Int)} {q : Pl} (hq : okP L q) : decide (gL L q ≠ q) = decide (q.2 < (lnL L q.1).length - 1) := by
  have := hq.2
  by_cases e : q.2 < (lnL L q.1).length - 1
  · have : gL L q ≠ q := fun h => by have := congrArg Prod.snd h; simp only [gL] at this; omega
    simp [e, this]
  · have : gL L q = q := by unfold gL; exact Prod.ext rfl (by show min (q.2 + 1) _ = q.2; omega)
    simp [e, this]
theorem cnts_l (L : List (List Int)) : Cnts L 108 (gL L) := by
  have key : ∀ (p : Pl) (c : Int) (n : Nat), okP L p → tms c = n → ∃ h, mvR L p ⟨108, c, 0, 0⟩ false = ((stepsP (gL L) n p p).1, h, decide (gL L p ≠ p)) := by
    intro p c n hp hn
    refine ⟨0, ?_⟩
    unfold mvR
    rw [mvP_l L p _ rfl, gL_ne hp, steps_l L hp]
    have hp2 := hp.2
    simp only [hn]
    by_cases e : p.2 < (lnL L p.1).length - 1
    · rw [if_pos e]; simp [e]
    · rw [if_neg e]
      simp only [e, decide_false]
      rw [show min (p.2 + n) ((lnL L p.1).length - 1) = p.2 by omega]
  refine ⟨fun q hq => ⟨hq.1, by show min _ _ ≤ (lnL L q.1).length - 1; omega⟩, fun q hq => ?_, fun p n hp hn => key p _ n hp (tms_nat hn)⟩
  obtain ⟨h, e⟩ := key q 0 1 hq rfl
  rw [steps_one] at e
  exact ⟨h, e⟩
def keys10 : List Int := [104, 108, 119, 87, 98, 66, 101, 69, 125, 41, 40, 123]
theorem cnts_all {L : List (List Int)} (hL : L ≠ []) {k : Int} (hk : k ∈ keys10) : ∃ g, Cnts L k g := by
  unfold keys10 at hk
  simp only [List.mem_cons, List.not_mem_nil, or_false] at hk
  rcases hk with rfl | rfl | rfl | rfl | rfl | rfl | rfl | rfl | rfl | rfl | rfl | rfl
  · exact ⟨_, cnts_h L⟩
  · exact ⟨_, cnts_l L⟩
  all_goals exact ⟨_, cnts_st hL (g := _) (h := _) rfl⟩
end Go.Proofs.Ytikdojebnbmpoaa.U
