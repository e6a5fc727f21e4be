/-
  The contracts of 'Columns', 'Col' and 'At': loops over the iterator.
-/
import Derived.Test.YthceooehndiglaaDoorCIter
import Derived.Maps.AppendAt
namespace Go.Proofs.YthceooehndiglaaDoor.U
open Go.RowKit Go.Shelf
set_option linter.unusedVariables false
set_option linter.unusedSimpArgs false
attribute [local go_sem] Oper.semAt_some

/-- what holds of the next unit -/
theorem next_unit {line : List Int} {tab : Nat} {pre : List Un} {x : Un} (h : pre ++ [x] <+: units line tab) :
    x.col = endCol pre ∧ x.fr = (match pre.getLast? with | none => 0 | some q => q.to) ∧ x.fr < x.to ∧ x.to ≤ line.length ∧ x.wd = width1 line tab x.col x.fr ∧
    (rn line x.fr = 9 → x.to = x.fr + 1) ∧ (∀ j, x.fr < j → j < x.to → zeroB (rn line j) = true) ∧ marksU line x ≤ 3 := by
  obtain ⟨t, ht⟩ := h
  exact (good line tab line.length).each pre x t (by show units line tab = _; rw [← ht]; simp)
def lastTo (us : List Un) : Nat := match us.getLast? with | none => 0 | some q => q.to
theorem lastTo_snoc (us : List Un) (u : Un) : lastTo (us ++ [u]) = u.to := by simp [lastTo]
theorem prefix_left {α : Type} {p t us : List α} (h : p ++ t <+: us) : p <+: us := by
  obtain ⟨s, hs⟩ := h
  exact ⟨t ++ s, by rw [← hs]; simp⟩
theorem endCol_bound {line : List Int} {tab : Nat} (ht : 1 ≤ tab ∧ tab ≤ 64) : ∀ (n : Nat) (pre : List Un), pre.length = n → pre <+: units line tab → endCol pre ≤ 64 * lastTo pre ∧ lastTo pre ≤ line.length
  | 0, pre, hn, _ => by
    obtain rfl := List.eq_nil_of_length_eq_zero hn
    simp [endCol, lastTo]
  | n + 1, pre, hn, h => by
    rcases snoc_cases pre with rfl | ⟨p, x, rfl⟩
    · simp at hn
    · obtain ⟨h1, h2, h3, h4, h5, _⟩ := next_unit h
      have ih := endCol_bound ht n p (by simpa using hn) (prefix_left h)
      rw [endCol_snoc, lastTo_snoc]
      have h2' : x.fr = lastTo p := h2
      have hw := width1_le (line := line) (col := x.col) (i := x.fr) ht
      omega
theorem pre_bound {line : List Int} {tab : Nat} (ht : 1 ≤ tab ∧ tab ≤ 64) {pre : List Un} (h : pre <+: units line tab) : endCol pre ≤ 64 * line.length := by
  have := endCol_bound ht _ pre rfl h
  omega

theorem But.setE {N : Nat} {E : Nat → Prop} {a b : World} (h : But N E a b) (B i : Nat) (hE : E B) (u : Value) : But N E a (b.setCell ⟨B, i, none⟩ u) := h.setCell (p := ⟨B, i, none⟩) (.inr hE) u

set_option maxRecDepth 100000 in
theorem columns_any (a : Option Addr) (len cap : Nat) (line : List Int) (t : Int) (tab : Nat) (htab : tabM t = tab) (w : World) (hr : Rd .i32 w a len cap line) (hlen : len ≤ 100000) (hg : Gl w) :
    Calls Tryd.prog 19 #[.slice a len cap, .int .i64 t] w fun e w' => e = .returned (.int .i64 (endCol (units line tab))) ∧ Below w.heap.size w w' := by
  have hT := tabM_in t
  have htl := textless_any a len cap t
  rw [htab] at hT htl
  have HTL := Lib.hid htl
  clear htab htl
  refine (callsIn_wide (n := 5)).1 ?_
  refine callsIn_of_wp_marks Tryd.func19 rfl trivial ?_ rfl
  simp only [Tryd.ntmps19, List.size_toArray, List.length_cons, List.length_nil, Nat.reduceAdd, Nat.reduceSub, Array.replicate_succ, Array.replicate_zero, List.push_toArray, List.append_toArray, List.nil_append, List.cons_append]
  gi_wp2
  refine ⟨trivial, ?_⟩
  refine (callsIn_wide.2 (HTL.out _)).mono ?_
  rintro e w2 ⟨rfl, rfl⟩
  gi_wp2
  obtain ⟨w1, hw1⟩ : ∃ w1, (((w.alloc (.cells #[.int .i64 0] 3)).alloc (.cells #[.slice a len cap] 24)).alloc (.cells #[.int .i64 (tab : Nat)] 3)) = w1 := ⟨_, rfl⟩
  rw [hw1]
  have hsz : w1.heap.size = w.heap.size + 3 := by rw [← hw1]; simp
  have bN : Boxed w1 w.heap.size 3 (.int .i64 0) := by rw [← hw1]; exact ((Boxed.new w _ _).alloc _).alloc _
  have bL : w1.cell? ⟨w.heap.size + 1, 0, none⟩ = some (.slice a len cap) := by
    rw [← hw1]
    have h := ((Boxed.new (w.alloc (.cells #[.int .i64 0] 3)) 24 (.slice a len cap)).alloc (.cells #[.int .i64 (tab : Nat)] 3)).cell
    simpa using h
  have bT : w1.cell? ⟨w.heap.size + 1 + 1, 0, none⟩ = some (.int .i64 (tab : Nat)) := by
    rw [← hw1]
    have h := (Boxed.new ((w.alloc (.cells #[.int .i64 0] 3)).alloc (.cells #[.slice a len cap] 24)) 3 (.int .i64 (tab : Nat))).cell
    simpa using h
  have hB0 : Below w.heap.size w w1 := by rw [← hw1]; exact (((Below.refl _ w).alloc (Nat.le_refl _) _).alloc (by simp) _).alloc (by simp; omega) _
  have hll := hr.len
  clear hw1
  refine range_own (w := w1) rfl (by omega) (gf := 34) (lb := #[.pointer (some ⟨w.heap.size + 1, 0, none⟩), .pointer (some ⟨w.heap.size + 1 + 1, 0, none⟩)]) rfl trivial (enters_of Tryd.func34 (by kernel_rfl) rfl)
    (encs := fun u : Un => #[unV u]) (us := units line tab) (E := (· = w.heap.size)) (fun k e => by omega) (fun _ => rfl)
    (fun o => textless_iter _ a len cap line tab hT hlen _ _ w _ hr hg ((hB0.alloc (by omega) _).alloc (by simp; omega) _) _ (fun k e => by constructor; omega; simp; omega) ?i1 ?i2 (by omega) (by omega))
    (fun pre W => Boxed W w.heap.size 3 (.int .i64 (endCol pre : Nat)) ∧ Below w.heap.size w W) (fun _ _ _ => False)
    ?hI (fun _ _ _ _ h _ => h.elim) ⟨bN, hB0⟩
    (fun pre x a' W => ∃ Bx, w1.heap.size + 2 < Bx ∧ Ub W Bx x.fr x.to x.col x.wd ∧ (Boxed W w.heap.size 3 (.int .i64 (endCol pre : Nat)) ∧ Below w.heap.size w W) ∧
      a' = { tmps := #[.slice a len cap, .int .i64 t, undef, undef, .int .i64 0, .pointer (some ⟨w.heap.size, 0, none⟩), .pointer (some ⟨Bx, 0, none⟩), .slice a len cap, .int .i64 t,
        .func (.func 34) #[] #[.pointer (some ⟨w.heap.size + 1, 0, none⟩), .pointer (some ⟨w.heap.size + 1 + 1, 0, none⟩)], unV x, undef, undef, undef, undef, undef], defers := [] })
    ?hAx ?assign ?body ?done ?stop
  case i1 => exact ((Below.refl w1.heap.size w1).alloc (Nat.le_refl _) _ |>.alloc (by simp) _).cell (p := ⟨w.heap.size + 1, 0, none⟩) (by simp only; omega) |>.trans bL
  case i2 => exact ((Below.refl w1.heap.size w1).alloc (Nat.le_refl _) _ |>.alloc (by simp) _).cell (p := ⟨w.heap.size + 1 + 1, 0, none⟩) (by simp only; omega) |>.trans bT
  case hI =>
    rintro s W W' ⟨h1, h2⟩ hb
    have hl := h1.lt
    exact ⟨(hb.block _ hl (by omega)).trans h1, h2.trans (hb.below (by omega) (fun k hk e => by omega))⟩
  case hAx =>
    rintro pre x a' W W' ⟨Bx, hx, hu, ⟨h1, h2⟩, rfl⟩ hb
    have hl := h1.lt
    exact ⟨Bx, hx, hu.keep (hb.block _ hu.lt (by omega)), ⟨(hb.block _ hl (by omega)).trans h1, h2.trans (hb.below (by omega) (fun k hk e => by omega))⟩, rfl⟩
  case assign =>
    rintro l pre x W K hlt ⟨h1, h2⟩ hpre hK
    unfold unV
    gi_wp2
    have hl := h1.lt
    refine hK _ _ ?_ ⟨W.heap.size, by omega, Ub.new W _ _ _ _, ⟨h1.alloc _, h2.alloc (by omega) _⟩, rfl⟩
    exact (But.refl _ _ W).alloc (by omega) _
  case body =>
    rintro l pre x a' W hlt ⟨Bx, hx, hu, ⟨h1, h2⟩, rfl⟩ hpre
    obtain ⟨n1, -, n3, n4, -⟩ := next_unit hpre
    have hbd := pre_bound hT hpre
    rw [endCol_snoc] at hbd
    rw [hll] at hbd
    rw [← n1] at h1
    have c1 := h1.cell
    have f1 := h1.frozen
    have c3 := hu.cells.2.2.2.1
    have H1 := Lib.hid h1
    have H2 := Lib.hid h2
    clear h1 h2 n1
    gi_wp2
    refine ⟨(But.refl _ _ W).setE _ _ (by exact rfl) _, ?_, H2.out.setCell (p := ⟨w.heap.size, 0, none⟩) (Nat.le_refl _) _⟩
    have h := H1.out.set (.int .i64 ((x.col : Int) + (x.wd : Int)))
    rw [endCol_snoc]
    simpa using h
  case done =>
    rintro W ⟨h1, h2⟩ hK
    have c1 := h1.cell
    gi_wp2
    refine ⟨by simp, .inl ⟨_, _, rfl, run_takeDeferred hK, ?_⟩⟩
    exact ⟨_, results_tmp rfl _ _ _, rfl, h2.grown (grownBy_putObj' W _ _) h2.size (fun k e => by cases e; omega)⟩
  case stop =>
    rintro c pre W _ h _
    exact h.elim

theorem boxed2 {W : World} {B1 B2 : Nat} {t1 t2 : TypeId} {v1 v2 : Value} (h1 : Boxed W B1 t1 v1) (h2 : Boxed W B2 t2 v2) (hne : B1 ≠ B2) (u1 u2 : Value) :
    Boxed ((W.setCell ⟨B1, 0, none⟩ u1).setCell ⟨B2, 0, none⟩ u2) B1 t1 u1 ∧ Boxed ((W.setCell ⟨B1, 0, none⟩ u1).setCell ⟨B2, 0, none⟩ u2) B2 t2 u2 :=
  ⟨(Below.heap_setCell _ _ _ _ (by simp only; omega)).trans (h1.set u1), Boxed.set u2 (v := v2) ((Below.heap_setCell _ _ _ _ (by simp only; omega)).trans h2)⟩

/-- where rune i is shown -/
def colM (us : List Un) (i : Int) : Nat × Nat := match us.find? (fun u => decide (i < u.to)) with
  | some u => (u.col, u.wd)
  | none => (endCol us, 1)
/-- what column c shows -/
def atM (us : List Un) (n : Nat) (c : Int) : Nat := match us.find? (fun u => decide (c < u.col + u.wd)) with
  | some u => u.fr
  | none => n
theorem find_hit {α : Type} {P : α → Bool} {us p : List α} {x : α} (h : p ++ [x] <+: us) (hp : ∀ u ∈ p, P u = false) (hx : P x = true) : us.find? P = some x := by
  obtain ⟨t, rfl⟩ := h
  rw [List.append_assoc, List.find?_append, List.find?_eq_none.2 (fun u hu => by simp [hp u hu])]
  simp [hx]
theorem colM_hit {us p : List Un} {x : Un} {i : Int} (h : p ++ [x] <+: us) (hp : ∀ u ∈ p, (u.to : Int) ≤ i) (hx : i < x.to) : colM us i = (x.col, x.wd) := by
  unfold colM
  rw [find_hit h (fun u hu => by have := hp u hu; simp; omega) (by simpa using hx)]
theorem colM_none {us : List Un} {i : Int} (hp : ∀ u ∈ us, (u.to : Int) ≤ i) : colM us i = (endCol us, 1) := by
  unfold colM
  rw [List.find?_eq_none.2 (fun u hu => by have := hp u hu; simp; omega)]
theorem atM_hit {us p : List Un} {x : Un} {n : Nat} {c : Int} (h : p ++ [x] <+: us) (hp : ∀ u ∈ p, (u.col : Int) + u.wd ≤ c) (hx : c < x.col + x.wd) : atM us n c = x.fr := by
  unfold atM
  rw [find_hit h (fun u hu => by have := hp u hu; simp; omega) (by simpa using hx)]
theorem atM_none {us : List Un} {n : Nat} {c : Int} (hp : ∀ u ∈ us, (u.col : Int) + u.wd ≤ c) : atM us n c = n := by
  unfold atM
  rw [List.find?_eq_none.2 (fun u hu => by have := hp u hu; simp; omega)]

set_option maxRecDepth 100000 in
set_option maxHeartbeats 1000000 in
theorem col_any (a : Option Addr) (len cap : Nat) (line : List Int) (t : Int) (tab : Nat) (htab : tabM t = tab) (i : Int) (w : World) (hr : Rd .i32 w a len cap line) (hlen : len ≤ 100000) (hg : Gl w) :
    Calls Tryd.prog 21 #[.slice a len cap, .int .i64 t, .int .i64 i] w fun e w' =>
      (∃ c d : Nat, e = .returned (.tuple #[.int .i64 c, .int .i64 d]) ∧ colM (units line tab) i = (c, d)) ∧ Below w.heap.size w w' := by
  have hT := tabM_in t
  have htl := textless_any a len cap t
  rw [htab] at hT htl
  have HTL := Lib.hid htl
  clear htab htl
  refine (callsIn_wide (n := 5)).1 ?_
  refine callsIn_of_wp_marks Tryd.func21 rfl trivial ?_ rfl
  simp only [Tryd.ntmps21, List.size_toArray, List.length_cons, List.length_nil, Nat.reduceAdd, Nat.reduceSub, Array.replicate_succ, Array.replicate_zero, List.push_toArray, List.append_toArray, List.nil_append, List.cons_append]
  gi_wp2
  refine ⟨trivial, ?_⟩
  refine (callsIn_wide.2 (HTL.out _)).mono ?_
  rintro e w2 ⟨rfl, rfl⟩
  gi_wp2
  obtain ⟨w1, hw1⟩ : ∃ w1, ((((((w.alloc (.cells #[.int .i64 i] 3)).alloc (.cells #[.int .i64 0] 3)).alloc (.cells #[.int .i64 0] 3)).alloc (.cells #[.int .i64 0] 3)).alloc (.cells #[.slice a len cap] 24)).alloc (.cells #[.int .i64 (tab : Nat)] 3)) = w1 := ⟨_, rfl⟩
  rw [hw1]
  have hsz : w1.heap.size = w.heap.size + 6 := by rw [← hw1]; simp
  have b0 : Boxed w1 w.heap.size 3 (.int .i64 i) := by rw [← hw1]; exact (((((Boxed.new w _ _).alloc _).alloc _).alloc _).alloc _).alloc _
  have b1 : Boxed w1 (w.heap.size + 1) 3 (.int .i64 0) := by
    rw [← hw1]
    have h := ((((Boxed.new (w.alloc (.cells #[.int .i64 i] 3)) 3 (.int .i64 0)).alloc (.cells #[.int .i64 0] 3)).alloc (.cells #[.int .i64 0] 3)).alloc (.cells #[.slice a len cap] 24)).alloc (.cells #[.int .i64 (tab : Nat)] 3)
    rwa [World.size_alloc] at h
  have b2 : Boxed w1 (w.heap.size + 1 + 1) 3 (.int .i64 0) := by
    rw [← hw1]
    have h := (((Boxed.new ((w.alloc (.cells #[.int .i64 i] 3)).alloc (.cells #[.int .i64 0] 3)) 3 (.int .i64 0)).alloc (.cells #[.int .i64 0] 3)).alloc (.cells #[.slice a len cap] 24)).alloc (.cells #[.int .i64 (tab : Nat)] 3)
    rwa [World.size_alloc, World.size_alloc] at h
  have b3 : Boxed w1 (w.heap.size + 1 + 1 + 1) 3 (.int .i64 0) := by
    rw [← hw1]
    have h := ((Boxed.new (((w.alloc (.cells #[.int .i64 i] 3)).alloc (.cells #[.int .i64 0] 3)).alloc (.cells #[.int .i64 0] 3)) 3 (.int .i64 0)).alloc (.cells #[.slice a len cap] 24)).alloc (.cells #[.int .i64 (tab : Nat)] 3)
    rwa [World.size_alloc, World.size_alloc, World.size_alloc] at h
  have bL : w1.cell? ⟨w.heap.size + 1 + 1 + 1 + 1, 0, none⟩ = some (.slice a len cap) := by
    rw [← hw1]
    have h := ((Boxed.new ((((w.alloc (.cells #[.int .i64 i] 3)).alloc (.cells #[.int .i64 0] 3)).alloc (.cells #[.int .i64 0] 3)).alloc (.cells #[.int .i64 0] 3)) 24 (.slice a len cap)).alloc (.cells #[.int .i64 (tab : Nat)] 3)).cell
    rwa [World.size_alloc, World.size_alloc, World.size_alloc, World.size_alloc] at h
  have bT : w1.cell? ⟨w.heap.size + 1 + 1 + 1 + 1 + 1, 0, none⟩ = some (.int .i64 (tab : Nat)) := by
    rw [← hw1]
    have h := (Boxed.new (((((w.alloc (.cells #[.int .i64 i] 3)).alloc (.cells #[.int .i64 0] 3)).alloc (.cells #[.int .i64 0] 3)).alloc (.cells #[.int .i64 0] 3)).alloc (.cells #[.slice a len cap] 24)) 3 (.int .i64 (tab : Nat))).cell
    rwa [World.size_alloc, World.size_alloc, World.size_alloc, World.size_alloc, World.size_alloc] at h
  have hB0 : Below w.heap.size w w1 := by rw [← hw1]; exact ((((((Below.refl _ w).alloc (Nat.le_refl _) _).alloc (by simp) _).alloc (by simp; omega) _).alloc (by simp; omega) _).alloc (by simp; omega) _).alloc (by simp; omega) _
  have hll := hr.len
  clear hw1
  obtain ⟨B1, e1⟩ : ∃ B, w.heap.size + 1 = B := ⟨_, rfl⟩
  rw [e1] at b1 b2 b3 bL bT ⊢
  obtain ⟨B2, e2⟩ : ∃ B, B1 + 1 = B := ⟨_, rfl⟩
  rw [e2] at b2 b3 bL bT ⊢
  obtain ⟨B3, e3⟩ : ∃ B, B2 + 1 = B := ⟨_, rfl⟩
  rw [e3] at b3 bL bT ⊢
  obtain ⟨B4, e4⟩ : ∃ B, B3 + 1 = B := ⟨_, rfl⟩
  rw [e4] at bL bT ⊢
  obtain ⟨B5, e5⟩ : ∃ B, B4 + 1 = B := ⟨_, rfl⟩
  rw [e5] at bT ⊢
  refine range_own (w := w1) rfl (by omega) (gf := 34) (lb := #[.pointer (some ⟨B4, 0, none⟩), .pointer (some ⟨B5, 0, none⟩)]) rfl trivial (enters_of Tryd.func34 (by kernel_rfl) rfl)
    (encs := fun u : Un => #[unV u]) (us := units line tab) (E := fun k => w.heap.size ≤ k ∧ k ≤ B3) (fun k e => by omega) (fun _ => rfl)
    (fun o => textless_iter _ a len cap line tab hT hlen _ _ w _ hr hg ((hB0.alloc (by omega) _).alloc (by simp; omega) _) _ (fun k e => by constructor; omega; simp; omega) ?i1 ?i2 (by omega) (by omega))
    (fun pre W => ((∀ u ∈ pre, (u.to : Int) ≤ i) ∧ Boxed W w.heap.size 3 (.int .i64 i) ∧ Boxed W B1 3 (.int .i64 0) ∧ Boxed W B2 3 (.int .i64 0) ∧ Boxed W B3 3 (.int .i64 (endCol pre : Nat))) ∧ Below w.heap.size w W)
    (fun c pre W => (c = .ret ∧ ∃ x : Un, colM (units line tab) i = (x.col, x.wd) ∧ Boxed W B1 3 (.int .i64 (x.col : Nat)) ∧ Boxed W B2 3 (.int .i64 (x.wd : Nat))) ∧ Below w.heap.size w W)
    ?hI ?hIx ⟨⟨by simp, b0, b1, b2, b3⟩, hB0⟩
    (fun pre x a' W => ∃ Bx, w1.heap.size + 2 < Bx ∧ Ub W Bx x.fr x.to x.col x.wd ∧ (((∀ u ∈ pre, (u.to : Int) ≤ i) ∧ Boxed W w.heap.size 3 (.int .i64 i) ∧ Boxed W B1 3 (.int .i64 0) ∧ Boxed W B2 3 (.int .i64 0) ∧ Boxed W B3 3 (.int .i64 (endCol pre : Nat))) ∧ Below w.heap.size w W) ∧
      a' = { tmps := #[.slice a len cap, .int .i64 t, .int .i64 i, undef, undef, .pointer (some ⟨w.heap.size, 0, none⟩), .pointer (some ⟨B1, 0, none⟩), .pointer (some ⟨B2, 0, none⟩), .pointer (some ⟨B3, 0, none⟩), .pointer (some ⟨Bx, 0, none⟩), .slice a len cap, .int .i64 t,
        .func (.func 34) #[] #[.pointer (some ⟨B4, 0, none⟩), .pointer (some ⟨B5, 0, none⟩)], unV x, undef, undef, undef, undef, undef, undef, undef, undef, undef, undef, undef, undef, undef], defers := [] })
    ?hAx ?assign ?body ?done ?stop
  case i1 => exact ((Below.refl w1.heap.size w1).alloc (Nat.le_refl _) _ |>.alloc (by simp) _).cell (p := ⟨B4, 0, none⟩) (by simp only; omega) |>.trans bL
  case i2 => exact ((Below.refl w1.heap.size w1).alloc (Nat.le_refl _) _ |>.alloc (by simp) _).cell (p := ⟨B5, 0, none⟩) (by simp only; omega) |>.trans bT
  case hI =>
    rintro s W W' ⟨⟨h0, h1, h2, h3, h4⟩, h5⟩ hb
    exact ⟨⟨h0, (hb.block _ h1.lt (by omega)).trans h1, (hb.block _ h2.lt (by omega)).trans h2, (hb.block _ h3.lt (by omega)).trans h3, (hb.block _ h4.lt (by omega)).trans h4⟩, h5.trans (hb.below h5.size (fun k hk e => by omega))⟩
  case hIx =>
    rintro c s W W' ⟨⟨rfl, x, h0, h1, h2⟩, h5⟩ hb
    exact ⟨⟨rfl, x, h0, (hb.block _ h1.lt (by omega)).trans h1, (hb.block _ h2.lt (by omega)).trans h2⟩, h5.trans (hb.below h5.size (fun k hk e => by omega))⟩
  case hAx =>
    rintro pre x a' W W' ⟨Bx, hx, hu, ⟨⟨h0, h1, h2, h3, h4⟩, h5⟩, rfl⟩ hb
    exact ⟨Bx, hx, hu.keep (hb.block _ hu.lt (by omega)), ⟨⟨h0, (hb.block _ h1.lt (by omega)).trans h1, (hb.block _ h2.lt (by omega)).trans h2, (hb.block _ h3.lt (by omega)).trans h3, (hb.block _ h4.lt (by omega)).trans h4⟩, h5.trans (hb.below h5.size (fun k hk e => by omega))⟩, rfl⟩
  case assign =>
    rintro l pre x W K hlt ⟨⟨h0, h1, h2, h3, h4⟩, h5⟩ hpre hK
    have H0 := Lib.hid h0
    clear h0
    unfold unV
    gi_wp2
    refine hK _ _ ?_ ⟨W.heap.size, by omega, Ub.new W _ _ _ _, ⟨⟨H0.out, h1.alloc _, h2.alloc _, h3.alloc _, h4.alloc _⟩, h5.alloc h5.size _⟩, rfl⟩
    exact (But.refl _ _ W).alloc (by omega) _
  case body =>
    rintro l pre x a' W hlt ⟨Bx, hx, hu, ⟨⟨h0, h1, h2, h3, h4⟩, h5⟩, rfl⟩ hpre
    obtain ⟨n1, -, n3, n4, -⟩ := next_unit hpre
    have hbd := pre_bound hT hpre
    rw [endCol_snoc] at hbd
    rw [hll] at hbd
    rw [← n1] at h4
    have c0 := h1.cell
    have c1 := h2.cell
    have c2 := h3.cell
    have c3 := h4.cell
    have f1 := h2.frozen
    have f2 := h3.frozen
    have f3 := h4.frozen
    obtain ⟨u0, u1, u2, u3, -⟩ := hu.cells
    have H0 := Lib.hid h0
    have H1 := Lib.hid h1
    have H2 := Lib.hid h2
    have H3 := Lib.hid h3
    have H4 := Lib.hid h4
    have H5 := Lib.hid h5
    have HX : Hid (i < x.to → colM (units line tab) i = (x.col, x.wd)) := fun h => colM_hit hpre h0 h
    clear h0 h1 h2 h3 h4 h5 n1
    have hp := (by kernel_rfl : Tryd.prog.follows .mixedOrders = true)
    by_cases hi : i < x.to
    · have ne1 : Bx ≠ B1 := by omega
      have ne2 : Bx ≠ B2 := by omega
      have ne3 : B1 ≠ B2 := by omega
      have ne4 : B2 ≠ B1 := by omega
      gi_wp2_with fail
      gi_region_with_o (fail)
      all_goals gi_wp2_with fail
      all_goals refine ⟨?_, ⟨rfl, x, HX.out hi, ?_, ?_⟩, ?_⟩
      all_goals first
        | exact ((((But.refl _ _ W).drew).setE _ _ (by exact ⟨by omega, by omega⟩) _).setE _ _ (by exact ⟨by omega, by omega⟩) _)
        | exact ((H5.out.drew.setCell (p := ⟨B1, 0, none⟩) (by simp only; omega) _).setCell (p := ⟨B2, 0, none⟩) (by simp only; omega) _)
        | exact ((H5.out.drew.setCell (p := ⟨B2, 0, none⟩) (by simp only; omega) _).setCell (p := ⟨B1, 0, none⟩) (by simp only; omega) _)
        | exact (boxed2 (W := W.drew) H2.out H3.out ne3 _ _).1
        | exact (boxed2 (W := W.drew) H2.out H3.out ne3 _ _).2
        | exact (boxed2 (W := W.drew) H3.out H2.out ne4 _ _).1
        | exact (boxed2 (W := W.drew) H3.out H2.out ne4 _ _).2
    · gi_wp2_with fail
      refine ⟨(But.refl _ _ W).setE _ _ (by exact ⟨by omega, Nat.le_refl _⟩) _, ⟨?_, ?_, ?_, ?_, ?_⟩, H5.out.setCell (p := ⟨B3, 0, none⟩) (by simp only; omega) _⟩
      · intro u hu'
        rcases List.mem_append.1 hu' with h | h
        · exact H0.out u h
        · simp only [List.mem_singleton] at h; subst h; omega
      · exact (Below.heap_setCell _ _ _ _ (by simp only; omega)).trans H1.out
      · exact (Below.heap_setCell _ _ _ _ (by simp only; omega)).trans H2.out
      · exact (Below.heap_setCell _ _ _ _ (by simp only; omega)).trans H3.out
      · have h := H4.out.set (.int .i64 ((x.col : Int) + (x.wd : Int)))
        rw [endCol_snoc]
        simpa using h
  case done =>
    rintro W ⟨⟨h0, h1, h2, h3, h4⟩, h5⟩ hK
    have c1 := h2.cell
    have c2 := h3.cell
    have c3 := h4.cell
    have f1 := h2.frozen
    have f2 := h3.frozen
    have HN := Lib.hid (colM_none h0)
    have ne3 : B1 ≠ B2 := by omega
    have ne4 : B2 ≠ B1 := by omega
    have HD := Lib.hid hK
    have H2 := Lib.hid h2
    have H3 := Lib.hid h3
    have H5 := Lib.hid h5
    clear h0 h1 h2 h3 h4 h5 hK
    gi_wp2
    obtain ⟨g1, g2⟩ := boxed2 H2.out H3.out ne3 (.int .i64 (endCol (units line tab) : Nat)) (.int .i64 1)
    have hD : ((W.setCell ⟨B1, 0, none⟩ (.int .i64 (endCol (units line tab) : Nat))).setCell ⟨B2, 0, none⟩ (.int .i64 1)).heap[w1.heap.size]? = some (.deferred (some [])) :=
      (Below.heap_setCell _ _ _ _ (by simp only; omega)).trans ((Below.heap_setCell _ _ _ _ (by simp only; omega)).trans HD.out)
    have hb2 := (H5.out.setCell (p := ⟨B1, 0, none⟩) (by simp only; omega) (.int .i64 (endCol (units line tab) : Nat))).setCell (p := ⟨B2, 0, none⟩) (by simp only; omega) (.int .i64 1)
    obtain ⟨W2, hW2⟩ : ∃ W2, ((W.setCell ⟨B1, 0, none⟩ (.int .i64 (endCol (units line tab) : Nat))).setCell ⟨B2, 0, none⟩ (.int .i64 1)) = W2 := ⟨_, rfl⟩
    rw [hW2] at g1 g2 hD hb2 ⊢
    refine ⟨by simp, .inl ⟨_, _, rfl, run_takeDeferred hD, ?_⟩⟩
    have k1 : Boxed (W2.putObj w1.heap.size (.deferred none)) B1 3 (.int .i64 (endCol (units line tab) : Nat)) := (World.putObj_heap_other (by omega)).trans g1
    have k2 : Boxed (W2.putObj w1.heap.size (.deferred none)) B2 3 (.int .i64 1) := (World.putObj_heap_other (by omega)).trans g2
    have l1 := k1.cell
    have l2 := k2.cell
    refine ⟨.tuple #[.int .i64 (endCol (units line tab) : Nat), .int .i64 1], ?_, ⟨_, 1, rfl, HN.out⟩, hb2.grown (grownBy_putObj' W2 _ _) hb2.size (fun k e => by cases e; omega)⟩
    rw [results_cell2 rfl]
    clear k1 k2
    generalize W2.putObj w1.heap.size (.deferred none) = W3 at l1 l2 ⊢
    go_simp
  case stop =>
    rintro c pre W hpre ⟨⟨rfl, x, h0, h1, h2⟩, h5⟩ hK
    gi_wp2
    refine ⟨by simp, .inl ⟨_, _, rfl, run_takeDeferred hK, ?_⟩⟩
    have k1 : Boxed (W.putObj w1.heap.size (.deferred none)) B1 3 (.int .i64 (x.col : Nat)) := (World.putObj_heap_other (by omega)).trans h1
    have k2 : Boxed (W.putObj w1.heap.size (.deferred none)) B2 3 (.int .i64 (x.wd : Nat)) := (World.putObj_heap_other (by omega)).trans h2
    have l1 := k1.cell
    have l2 := k2.cell
    refine ⟨.tuple #[.int .i64 (x.col : Nat), .int .i64 (x.wd : Nat)], ?_, ⟨_, _, rfl, h0⟩, h5.grown (grownBy_putObj' W _ _) h5.size (fun k e => by cases e; omega)⟩
    rw [results_cell2 rfl]
    clear k1 k2
    generalize W.putObj w1.heap.size (.deferred none) = W3 at l1 l2 ⊢
    go_simp
end Go.Proofs.YthceooehndiglaaDoor.U
