/-
  Marks in memory; New, Set, Get.
-/
import Derived.Test.YtbgbhlnidabhnaaMSl
namespace Go.Proofs.Ytbgbhlnidabhnaa.U
open Go.RowKit
set_option linter.unusedVariables false
set_option linter.unusedSimpArgs false
set_option maxRecDepth 100000

/-- marks and jumps -/
structure Ms where
  ns : List (Int × Po)
  js : List Po
  ix : Nat
def ms0 : Ms := ⟨[], [], 0⟩
def En.s (x : En) : Int × Po := (x.r, x.p)
/-- a store among marks, as the document does it -/
def setA (r : Int) (p : Po) : Bool → List (Int × Po) → List (Int × Po)
  | put, [] => if put then [] else [(r, p)]
  | put, (q, o) :: t =>
    (if !put && decide (r ≤ q) then [(r, p)] else []) ++ (if q = r then [] else [(q, o)]) ++ setA r p (put || decide (r ≤ q)) t
def setN (ns : List (Int × Po)) (r : Int) (p : Po) : List (Int × Po) := setA r p false ns
def lookN (ns : List (Int × Po)) (r : Int) : Option Po := (ns.find? (fun x => x.1 == r)).map (·.2)
def setM (s : Ms) (r : Int) (p : Po) : Ms × Int := if nameB r && fitsP p then (⟨setN s.ns r p, s.js, s.ix⟩, 0) else (s, 1)
def pushJ (js : List Po) (p : Po) : List Po := if 100 < (notL p.l js ++ [p]).length then (notL p.l js ++ [p]).drop 1 else notL p.l js ++ [p]
def pushM (s : Ms) (p : Po) : Ms := if fitsP p then ⟨s.ns, pushJ s.js p, (pushJ s.js p).length⟩ else s
def toEnd (s : Ms) (p : Po) : Ms := if s.ix = s.js.length then ⟨s.ns, (pushM s p).js, (pushM s p).js.length - 1⟩ else s
def backM (s : Ms) (p : Po) : Ms × Option Po := if (toEnd s p).ix = 0 then (toEnd s p, none) else (⟨s.ns, (toEnd s p).js, (toEnd s p).ix - 1⟩, some ((toEnd s p).js.getD ((toEnd s p).ix - 1) po0))
def forthM (s : Ms) : Ms × Option Po := if s.js.length ≤ s.ix + 1 then (s, none) else (⟨s.ns, s.js, s.ix + 1⟩, some (s.js.getD (s.ix + 1) po0))
def adjN (ns : List (Int × Po)) (c : Ch) : List (Int × Po) := ns.filterMap (fun x => (moveP x.2 c).map (fun q => (x.1, q)))
def adjJ (js : List Po) (c : Ch) : List Po := js.filterMap (fun p => moveP p c)
def goneJ (js : List Po) (c : Ch) : Nat := js.countP (fun p => (moveP p c).isNone)
def adjM (s : Ms) (c : Ch) : Ms := ⟨adjN s.ns c, adjJ s.js c, s.ix - goneJ (s.js.take s.ix) c⟩

/-- a place that marks may hold -/
def okP (B : Int) (p : Po) : Prop := 0 ≤ p.l ∧ p.l ≤ 1073741824 + B ∧ 0 ≤ p.c ∧ p.c ≤ 1073741824
structure Ms.ok (s : Ms) (B : Int) : Prop where
  len : s.js.length ≤ 100
  ix : s.ix ≤ s.js.length
  sorted : s.ns.Pairwise (fun a b => a.1 < b.1)
  names : ∀ x ∈ s.ns, nameB x.1 = true
  marks : ∀ x ∈ s.ns, okP B x.2
  jumps : ∀ p ∈ s.js, okP B p

theorem nameB_wf {r : Int} (h : nameB r = true) : (Lit.int .i32 r).wf = true := by
  simp only [nameB, decide_eq_true_eq] at h
  exact WalkArith.wf_i32 (by omega)

/-- marks in memory; P: all their blocks -/
def MkS (P : Nat → Prop) (w : World) (bt : Nat) (s : Ms) : Prop :=
  ∃ (mb : Nat) (ja : Option Addr) (jc : Nat) (L : List En) (clock : Nat),
    w.heap[bt]? = some (.cells #[.map (some mb), .slice ja s.js.length jc, .int .i64 (s.ix : Nat)] 60 (0, 0)) ∧
    MapAt w mb L clock ∧ (L.map En.s).Perm s.ns ∧ w.ownsRow 0 23 2 (.slice ja s.js.length jc) s.js.length (fl s.js) ∧
    P bt ∧ P mb ∧ (∀ k, (Value.slice ja s.js.length jc).ownBlock = some k → P k) ∧ (∀ k, P k → k < w.heap.size)
/-- what a call leaves -/
def AfM (P : Nat → Prop) (w w' : World) (bt : Nat) (s : Ms) : Prop := ∃ P', MkS P' w' bt s ∧ Fr P w w' ∧ ∀ k, P' k → P k ∨ w.heap.size ≤ k
section
variable {P Q : Nat → Prop} {w w' : World} {bt : Nat} {s : Ms}
theorem MkS.lt (h : MkS P w bt s) : ∀ k, P k → k < w.heap.size := by obtain ⟨_, _, _, _, _, _, _, _, _, _, _, _, h⟩ := h; exact h
theorem MkS.fr {F : Nat → Prop} (h : MkS P w bt s) (hf : Fr F w w') (hd : ∀ k, P k → ¬ F k) : MkS P w' bt s := by
  obtain ⟨mb, ja, jc, L, clock, h1, h2, h3, h4, p1, p2, p3, p4⟩ := h
  exact ⟨mb, ja, jc, L, clock, (hf.block bt (heap_lt h1) (hd bt p1)).trans h1, h2.fr hf (hd mb p2), h3, own_fr h4 hf (fun k e => hd k (p3 k e)), p1, p2, p3, fun k hk => by have := p4 k hk; have := hf.size; omega⟩
theorem MkS.below (h : MkS P w bt s) (hb : Below w.heap.size w w') : MkS P w' bt s := h.fr (Fr.of_below (fun _ => False) hb) (fun _ _ h => h)
theorem MkS.same (h : MkS P w bt s) (hb : Below w.heap.size w w') : AfM P w w' bt s := ⟨P, h.below hb, Fr.of_below P hb, fun k hk => .inl hk⟩
theorem AfM.trans {w1 w2 : World} {s1 s2 : Ms} (h1 : AfM P w w1 bt s1) (h2 : ∀ P', MkS P' w1 bt s1 → AfM P' w1 w2 bt s2) : AfM P w w2 bt s2 := by
  obtain ⟨P', a1, a2, a3⟩ := h1
  obtain ⟨P'', b1, b2, b3⟩ := h2 P' a1
  refine ⟨P'', b1, a2.trans b2 (fun k hk h => ?_), fun k hk => ?_⟩
  · rcases a3 k h with h | h
    · exact h
    · omega
  · rcases b3 k hk with h | h
    · exact a3 k h
    · exact .inr (Nat.le_trans a2.size h)
theorem AfM.after {w0 : World} (hb : Below w0.heap.size w0 w) (h : AfM P w w' bt s) (hP : ∀ k, P k → k < w0.heap.size) : AfM P w0 w' bt s := by
  obtain ⟨P', a1, a2, a3⟩ := h
  exact ⟨P', a1, (Fr.of_below P hb).trans a2 (fun _ _ h => h), fun k hk => (a3 k hk).imp id (fun h => Nat.le_trans hb.size h)⟩
end

theorem new_any (w : World) : Calls Try.prog 12 #[] w fun e w' => e = .returned (.pointer (some ⟨w.heap.size + 1, 0, none⟩)) ∧ MkS (fun k => w.heap.size ≤ k ∧ k < w.heap.size + 2) w' (w.heap.size + 1) ms0 ∧ Below w.heap.size w w' := by
  have hmm := @run_makeMap Try.prog
  go_enter Try.func12, Try.ntmps12
  go_wp2
  go_ret
  have hb : Below w.heap.size w ((w.alloc (.map #[] 0)).alloc (.cells #[.map (some w.heap.size), .slice none 0 0, .int .i64 0] 60)) := ((Below.refl _ w).alloc (Nat.le_refl _) _).alloc (by simp) _
  refine ⟨rfl, ⟨w.heap.size, none, 0, [], 0, ?_, ?_, List.Perm.refl _, World.ownsRow_nil _ _ _ _, ⟨by omega, by omega⟩, ⟨Nat.le_refl _, by omega⟩, ?_, ?_⟩, hb⟩
  · have := heap_alloc_new (w.alloc (.map #[] 0)) (.cells #[.map (some w.heap.size), .slice none 0 0, .int .i64 0] 60)
    rw [show (w.alloc (.map #[] 0)).heap.size = w.heap.size + 1 by simp] at this
    exact this
  · exact (MapAt.new w).fr (Fr.of_below (fun _ => False) ((Below.refl _ _).alloc (Nat.le_refl _) _)) (fun h => h)
  · intro k e
    cases e
  · intro k hk
    have := hk.2
    simp
    omega

theorem step_mapUpdate_run {P : Program} {ops : Array Oper} {o : Oper} {a : Act} {w : World} {K : Act → World → Prop} {Q : Exit → Act → World → Prop} {E : Prop}
    (hg : o.guard = none) (m x v : Operand) (t : TypeId) (hop : o.op = Op.mapUpdate t m x v)
    (vm vx vv : Value) (hm : a.eval m = vm) (hx : a.eval x = vx) (hv : a.eval v = vv) {w' : World} (hr : (Instr.mapUpdate t vm vx vv).run P w = .ok () w') (hK : K (a.put o.dst undef) w') :
    if Region.wanted o (yielded ops a.tmps) = true then Oper.wp P o a w K Q else E := by
  have hw : Region.wanted o (yielded ops a.tmps) = true := by simp [Region.wanted, hg]
  rw [if_pos hw]
  unfold Oper.wp
  simp [execOp, hop, hm, hx, hv, hr, Result.andThen]
  exact hK

theorem nodup_of_map {α β : Type} {f : α → β} {l : List α} (h : (l.map f).Nodup) : l.Nodup := List.Pairwise.of_map f (fun a b hn e => hn (congrArg f e)) h
theorem find_map_s (L : List En) (r : Int) : lookL L r = lookN (L.map En.s) r := by
  unfold lookL lookN
  induction L with
  | nil => rfl
  | cons x t ih =>
    simp only [List.map_cons, List.find?_cons, En.s]
    cases (x.r == r) with
    | true => rfl
    | false => exact ih
theorem lookN_some {ns : List (Int × Po)} {r : Int} {p : Po} (hn : (ns.map (·.1)).Nodup) : lookN ns r = some p ↔ (r, p) ∈ ns := by
  induction ns with
  | nil => simp [lookN]
  | cons x t ih =>
    simp only [List.map_cons, List.nodup_cons] at hn
    unfold lookN
    rw [List.find?_cons]
    by_cases h : x.1 = r
    · have : (x.1 == r) = true := by simpa using h
      rw [this]
      simp only [Option.map_some, Option.some.injEq, List.mem_cons]
      constructor
      · intro e; left; rw [← h, ← e]
      · rintro (e | e)
        · rw [← e]
        · exact absurd (List.mem_map.2 ⟨_, e, h.symm⟩) hn.1
    · have : (x.1 == r) = false := by simpa using h
      rw [this]
      have ih' := ih hn.2
      unfold lookN at ih'
      rw [ih', List.mem_cons]
      constructor
      · exact .inr
      · rintro (e | e)
        · exact absurd (by rw [← e]) h
        · exact e
theorem lookN_perm {a b : List (Int × Po)} (h : a.Perm b) (hn : (b.map (·.1)).Nodup) (r : Int) : lookN a r = lookN b r := by
  have hna : (a.map (·.1)).Nodup := (h.map _).nodup_iff.2 hn
  cases hb : lookN b r with
  | some p => exact (lookN_some hna).2 (h.mem_iff.2 ((lookN_some hn).1 hb))
  | none =>
    cases ha : lookN a r with
    | none => rfl
    | some p => rw [(lookN_some hn).2 (h.mem_iff.1 ((lookN_some hna).1 ha))] at hb; cases hb
theorem sorted_nodup {ns : List (Int × Po)} (h : ns.Pairwise (fun a b => a.1 < b.1)) : (ns.map (·.1)).Nodup := by
  unfold List.Nodup
  rw [List.pairwise_map]
  exact h.imp (fun h e => by omega)
/-- a store, in words of members -/
theorem setA_mem {r : Int} {p : Po} : ∀ {ns : List (Int × Po)} (put : Bool), ns.Pairwise (fun a b => a.1 < b.1) → ∀ x, x ∈ setA r p put ns ↔ (x ∈ ns ∧ x.1 ≠ r) ∨ (put = false ∧ x = (r, p))
  | [], put, _, x => by cases put <;> simp [setA]
  | (q, o) :: t, put, h, x => by
    rw [List.pairwise_cons] at h
    have ih := setA_mem (r := r) (p := p) (put || decide (r ≤ q)) h.2 x
    simp only [setA, List.mem_append, ih, List.mem_cons]
    cases put <;> by_cases hq : q = r <;> by_cases hr : r ≤ q <;> simp [hq, hr] <;> grind
theorem setA_sorted {r : Int} {p : Po} : ∀ {ns : List (Int × Po)} (put : Bool), ns.Pairwise (fun a b => a.1 < b.1) → (put = true → ∀ x ∈ ns, r ≤ x.1) → (setA r p put ns).Pairwise (fun a b => a.1 < b.1)
  | [], put, _, _ => by cases put <;> simp [setA]
  | (q, o) :: t, put, h, hr => by
    rw [List.pairwise_cons] at h
    have hle : (put || decide (r ≤ q)) = true → r ≤ q := by
      intro e
      simp only [Bool.or_eq_true, decide_eq_true_eq] at e
      rcases e with e | e
      · exact hr e (q, o) (by simp)
      · exact e
    have ih := setA_sorted (r := r) (p := p) (put || decide (r ≤ q)) h.2 (fun e x hx => by have := h.1 x hx; have := hle e; simp only at *; omega)
    have hm := fun x => setA_mem (r := r) (p := p) (put || decide (r ≤ q)) h.2 x
    simp only [setA]
    rw [List.append_assoc, List.pairwise_append, List.pairwise_append]
    refine ⟨by split <;> simp, ⟨by split <;> simp, ih, ?_⟩, ?_⟩
    · intro a ha b hb
      split at ha
      · cases ha
      · simp only [List.mem_singleton] at ha
        subst ha
        rcases (hm b).1 hb with h1 | h1
        · exact h.1 b h1.1
        · rw [h1.2]
          simp only [Bool.or_eq_false_iff, decide_eq_false_iff_not] at h1
          simp only
          omega
    · intro a ha b hb
      split at ha
      · rename_i hc
        simp only [Bool.and_eq_true, Bool.not_eq_true', decide_eq_true_eq] at hc
        simp only [List.mem_singleton] at ha
        subst ha
        rcases List.mem_append.1 hb with h1 | h1
        · split at h1
          · cases h1
          · simp only [List.mem_singleton] at h1
            subst h1
            simp only
            omega
        · rcases (hm b).1 h1 with h2 | h2
          · have := h.1 b h2.1
            simp only at *
            omega
          · simp only [Bool.or_eq_false_iff, decide_eq_false_iff_not] at h2
            exact absurd hc.2 h2.1.2
      · cases ha
theorem setN_sorted {ns : List (Int × Po)} {r : Int} {p : Po} (h : ns.Pairwise (fun a b => a.1 < b.1)) : (setN ns r p).Pairwise (fun a b => a.1 < b.1) := setA_sorted false h (fun e => by cases e)
theorem setN_mem {ns : List (Int × Po)} {r : Int} {p : Po} (h : ns.Pairwise (fun a b => a.1 < b.1)) (x : Int × Po) : x ∈ setN ns r p ↔ (x ∈ ns ∧ x.1 ≠ r) ∨ x = (r, p) := by
  unfold setN
  rw [setA_mem false h x]
  simp
/-- a store into the map is a store among marks -/
theorem upd_perm {L : List En} {ns : List (Int × Po)} {r : Int} {p : Po} {clock : Nat} (hL : (L.map (·.r)).Nodup) (hp : (L.map En.s).Perm ns) (h : ns.Pairwise (fun a b => a.1 < b.1)) (hu : ((updL L r p clock).map (·.r)).Nodup) : ((updL L r p clock).map En.s).Perm (setN ns r p) := by
  have n1 : ((updL L r p clock).map En.s).Nodup := by
    have : ((updL L r p clock).map En.s).map (·.1) = (updL L r p clock).map (·.r) := by simp [En.s]
    exact nodup_of_map (this ▸ hu)
  have n2 : (setN ns r p).Nodup := nodup_of_map (sorted_nodup (setN_sorted h))
  rw [List.perm_ext_iff_of_nodup n1 n2]
  intro x
  rw [setN_mem h, ← hp.mem_iff]
  unfold updL
  by_cases ha : L.any (·.r == r) = true
  · rw [if_pos ha]
    simp only [List.mem_map]
    constructor
    · rintro ⟨y, ⟨z, hz, rfl⟩, rfl⟩
      by_cases hr : z.r = r
      · right; rw [if_pos hr]; simp [En.s, hr]
      · left; rw [if_neg hr]; exact ⟨⟨z, hz, rfl⟩, hr⟩
    · rintro (⟨⟨z, hz, rfl⟩, hr⟩ | rfl)
      · exact ⟨z, ⟨z, hz, if_neg hr⟩, rfl⟩
      · obtain ⟨z, hz, hzr⟩ := List.any_eq_true.1 ha
        simp only [beq_iff_eq] at hzr
        exact ⟨_, ⟨z, hz, rfl⟩, by rw [if_pos hzr]; simp [En.s, hzr]⟩
  · rw [if_neg ha]
    simp only [List.map_append, List.map_cons, List.map_nil, List.mem_append, List.mem_singleton, List.mem_map]
    constructor
    · rintro (⟨z, hz, rfl⟩ | rfl)
      · left
        refine ⟨⟨z, hz, rfl⟩, fun e => ha (List.any_eq_true.2 ⟨z, hz, by have h0 : z.r = r := e; simpa using h0⟩)⟩
      · right; rfl
    · rintro (⟨⟨z, hz, rfl⟩, hr⟩ | rfl)
      · exact .inl ⟨z, hz, rfl⟩
      · exact .inr rfl
end Go.Proofs.Ytbgbhlnidabhnaa.U
