/-
  The contract of 'At'.
-/
import Derived.Test.YthceooehndiglaaDoorCMeas
namespace Go.Proofs.YthceooehndiglaaDoor.U
open Go.RowKit Go.Shelf
set_option linter.unusedVariables false
set_option linter.unusedSimpArgs false
attribute [local go_sem] Oper.semAt_some

set_option maxRecDepth 100000 in
set_option maxHeartbeats 1000000 in
theorem at_any (a : Option Addr) (len cap : Nat) (line : List Int) (t : Int) (tab : Nat) (htab : tabM t = tab) (c : Int) (w : World) (hr : Rd .i32 w a len cap line) (hlen : len ≤ 100000) (hg : Gl w) :
    Calls Tryd.prog 23 #[.slice a len cap, .int .i64 t, .int .i64 c] w fun e w' =>
      e = .returned (.int .i64 (atM (units line tab) len c)) ∧ Below w.heap.size w w' := by
  have hT := tabM_in t
  have htl := textless_any a len cap t
  rw [htab] at hT htl
  have HTL := Lib.hid htl
  clear htab htl
  refine (callsIn_wide (n := 5)).1 ?_
  refine callsIn_of_wp_marks Tryd.func23 rfl trivial ?_ rfl
  simp only [Tryd.ntmps23, List.size_toArray, List.length_cons, List.length_nil, Nat.reduceAdd, Nat.reduceSub, Array.replicate_succ, Array.replicate_zero, List.push_toArray, List.append_toArray, List.nil_append, List.cons_append]
  gi_wp2
  refine ⟨trivial, ?_⟩
  refine (callsIn_wide.2 (HTL.out _)).mono ?_
  rintro e w2 ⟨rfl, rfl⟩
  gi_wp2
  obtain ⟨w1, hw1⟩ : ∃ w1, ((((w.alloc (.cells #[.int .i64 c] 3)).alloc (.cells #[.int .i64 0] 3)).alloc (.cells #[.slice a len cap] 24)).alloc (.cells #[.int .i64 (tab : Nat)] 3)) = w1 := ⟨_, rfl⟩
  rw [hw1]
  have hsz : w1.heap.size = w.heap.size + 4 := by rw [← hw1]; simp
  have b0 : Boxed w1 w.heap.size 3 (.int .i64 c) := by rw [← hw1]; exact (((Boxed.new w _ _).alloc _).alloc _).alloc _
  have b1 : Boxed w1 (w.heap.size + 1) 3 (.int .i64 0) := by
    rw [← hw1]
    have h := ((Boxed.new (w.alloc (.cells #[.int .i64 c] 3)) 3 (.int .i64 0)).alloc (.cells #[.slice a len cap] 24)).alloc (.cells #[.int .i64 (tab : Nat)] 3)
    rwa [World.size_alloc] at h
  have bL : w1.cell? ⟨w.heap.size + 1 + 1, 0, none⟩ = some (.slice a len cap) := by
    rw [← hw1]
    have h := ((Boxed.new ((w.alloc (.cells #[.int .i64 c] 3)).alloc (.cells #[.int .i64 0] 3)) 24 (.slice a len cap)).alloc (.cells #[.int .i64 (tab : Nat)] 3)).cell
    rwa [World.size_alloc, World.size_alloc] at h
  have bT : w1.cell? ⟨w.heap.size + 1 + 1 + 1, 0, none⟩ = some (.int .i64 (tab : Nat)) := by
    rw [← hw1]
    have h := (Boxed.new (((w.alloc (.cells #[.int .i64 c] 3)).alloc (.cells #[.int .i64 0] 3)).alloc (.cells #[.slice a len cap] 24)) 3 (.int .i64 (tab : Nat))).cell
    rwa [World.size_alloc, World.size_alloc, World.size_alloc] at h
  have hB0 : Below w.heap.size w w1 := by rw [← hw1]; exact ((((Below.refl _ w).alloc (Nat.le_refl _) _).alloc (by simp) _).alloc (by simp; omega) _).alloc (by simp; omega) _
  have hll := hr.len
  clear hw1
  obtain ⟨B1, e1⟩ : ∃ B, w.heap.size + 1 = B := ⟨_, rfl⟩
  rw [e1] at b1 bL bT ⊢
  obtain ⟨B4, e4⟩ : ∃ B, B1 + 1 = B := ⟨_, rfl⟩
  rw [e4] at bL bT ⊢
  obtain ⟨B5, e5⟩ : ∃ B, B4 + 1 = B := ⟨_, rfl⟩
  rw [e5] at bT ⊢
  refine range_own (w := w1) rfl (by omega) (gf := 34) (lb := #[.pointer (some ⟨B4, 0, none⟩), .pointer (some ⟨B5, 0, none⟩)]) rfl trivial (enters_of Tryd.func34 (by kernel_rfl) rfl)
    (encs := fun u : Un => #[unV u]) (us := units line tab) (E := fun k => w.heap.size ≤ k ∧ k ≤ B1) (fun k e => by omega) (fun _ => rfl)
    (fun o => textless_iter _ a len cap line tab hT hlen _ _ w _ hr hg ((hB0.alloc (by omega) _).alloc (by simp; omega) _) _ (fun k e => by constructor; omega; simp; omega) ?i1 ?i2 (by omega) (by omega))
    (fun pre W => ((∀ u ∈ pre, (u.col : Int) + u.wd ≤ c) ∧ Boxed W w.heap.size 3 (.int .i64 c) ∧ Boxed W B1 3 (.int .i64 0)) ∧ Below w.heap.size w W)
    (fun j pre W => (j = .ret ∧ Boxed W B1 3 (.int .i64 (atM (units line tab) len c : Nat))) ∧ Below w.heap.size w W)
    ?hI ?hIx ⟨⟨by simp, b0, b1⟩, hB0⟩
    (fun pre x a' W => ∃ Bx, w1.heap.size + 2 < Bx ∧ Ub W Bx x.fr x.to x.col x.wd ∧ (((∀ u ∈ pre, (u.col : Int) + u.wd ≤ c) ∧ Boxed W w.heap.size 3 (.int .i64 c) ∧ Boxed W B1 3 (.int .i64 0)) ∧ Below w.heap.size w W) ∧
      a' = { tmps := #[.slice a len cap, .int .i64 t, .int .i64 c, undef, undef, .pointer (some ⟨w.heap.size, 0, none⟩), .pointer (some ⟨B1, 0, none⟩), .pointer (some ⟨Bx, 0, none⟩), .slice a len cap, .int .i64 t,
        .func (.func 34) #[] #[.pointer (some ⟨B4, 0, none⟩), .pointer (some ⟨B5, 0, none⟩)], unV x, undef, undef, undef, undef, undef, undef, undef, undef, undef, undef, undef], defers := [] })
    ?hAx ?assign ?body ?done ?stop
  case i1 => exact ((Below.refl w1.heap.size w1).alloc (Nat.le_refl _) _ |>.alloc (by simp) _).cell (p := ⟨B4, 0, none⟩) (by simp only; omega) |>.trans bL
  case i2 => exact ((Below.refl w1.heap.size w1).alloc (Nat.le_refl _) _ |>.alloc (by simp) _).cell (p := ⟨B5, 0, none⟩) (by simp only; omega) |>.trans bT
  case hI =>
    rintro s W W' ⟨⟨h0, h1, h2⟩, h5⟩ hb
    exact ⟨⟨h0, (hb.block _ h1.lt (by omega)).trans h1, (hb.block _ h2.lt (by omega)).trans h2⟩, h5.trans (hb.below h5.size (fun k hk e => by omega))⟩
  case hIx =>
    rintro j s W W' ⟨⟨rfl, h1⟩, h5⟩ hb
    exact ⟨⟨rfl, (hb.block _ h1.lt (by omega)).trans h1⟩, h5.trans (hb.below h5.size (fun k hk e => by omega))⟩
  case hAx =>
    rintro pre x a' W W' ⟨Bx, hx, hu, ⟨⟨h0, h1, h2⟩, h5⟩, rfl⟩ hb
    exact ⟨Bx, hx, hu.keep (hb.block _ hu.lt (by omega)), ⟨⟨h0, (hb.block _ h1.lt (by omega)).trans h1, (hb.block _ h2.lt (by omega)).trans h2⟩, h5.trans (hb.below h5.size (fun k hk e => by omega))⟩, rfl⟩
  case assign =>
    rintro l pre x W K hlt ⟨⟨h0, h1, h2⟩, h5⟩ hpre hK
    have H0 := Lib.hid h0
    clear h0
    unfold unV
    gi_wp2
    refine hK _ _ ?_ ⟨W.heap.size, by omega, Ub.new W _ _ _ _, ⟨⟨H0.out, h1.alloc _, h2.alloc _⟩, h5.alloc h5.size _⟩, rfl⟩
    exact (But.refl _ _ W).alloc (by omega) _
  case body =>
    rintro l pre x a' W hlt ⟨Bx, hx, hu, ⟨⟨h0, h1, h2⟩, h5⟩, rfl⟩ hpre
    obtain ⟨n1, -, n3, n4, -⟩ := next_unit hpre
    have hbd := pre_bound hT hpre
    rw [endCol_snoc] at hbd
    rw [hll] at hbd
    have c0 := h1.cell
    have c1 := h2.cell
    have f1 := h2.frozen
    obtain ⟨u0, u1, u2, u3, -⟩ := hu.cells
    have H0 := Lib.hid h0
    have H1 := Lib.hid h1
    have H2 := Lib.hid h2
    have H5 := Lib.hid h5
    have HX : Hid (c < x.col + x.wd → atM (units line tab) len c = x.fr) := fun h => atM_hit hpre h0 h
    clear h0 h1 h2 h5 n1
    by_cases hi : c < x.col + x.wd
    · gi_wp2_with fail
      refine ⟨?_, ⟨rfl, ?_⟩, ?_⟩
      · exact (But.refl _ _ W).setE _ _ (by exact ⟨by omega, Nat.le_refl _⟩) _
      · rw [HX.out hi]; exact H2.out.set _
      · exact H5.out.setCell (p := ⟨B1, 0, none⟩) (by simp only; omega) _
    · gi_wp2_with fail
      refine ⟨But.refl _ _ W, ⟨?_, H1.out, H2.out⟩, H5.out⟩
      intro u hu'
      rcases List.mem_append.1 hu' with h | h
      · exact H0.out u h
      · simp only [List.mem_singleton] at h; subst h; omega
  case done =>
    rintro W ⟨⟨h0, h1, h2⟩, h5⟩ hK
    have c1 := h2.cell
    have f1 := h2.frozen
    have HN := Lib.hid (atM_none (n := len) h0)
    have HD := Lib.hid hK
    have H2 := Lib.hid h2
    have H5 := Lib.hid h5
    clear h0 h1 h2 h5 hK
    gi_wp2
    have g1 := H2.out.set (.int .i64 (len : Nat))
    have hD : (W.setCell ⟨B1, 0, none⟩ (.int .i64 (len : Nat))).heap[w1.heap.size]? = some (.deferred (some [])) :=
      (Below.heap_setCell _ _ _ _ (by simp only; omega)).trans HD.out
    have hb2 := H5.out.setCell (p := ⟨B1, 0, none⟩) (by simp only; omega) (.int .i64 (len : Nat))
    obtain ⟨W2, hW2⟩ : ∃ W2, (W.setCell ⟨B1, 0, none⟩ (.int .i64 (len : Nat))) = W2 := ⟨_, rfl⟩
    rw [hW2] at g1 hD hb2 ⊢
    refine ⟨by simp, .inl ⟨_, _, rfl, run_takeDeferred hD, ?_⟩⟩
    have k1 : Boxed (W2.putObj w1.heap.size (.deferred none)) B1 3 (.int .i64 (len : Nat)) := (World.putObj_heap_other (by omega)).trans g1
    have l1 := k1.cell
    refine ⟨.int .i64 (len : Nat), ?_, ret_int (by rw [HN.out]), hb2.grown (grownBy_putObj' W2 _ _) hb2.size (fun k e => by cases e; omega)⟩
    rw [results_cell1 rfl]
    clear k1
    generalize W2.putObj w1.heap.size (.deferred none) = W3 at l1 ⊢
    go_simp
  case stop =>
    rintro j pre W hpre ⟨⟨rfl, h1⟩, h5⟩ hK
    gi_wp2
    refine ⟨by simp, .inl ⟨_, _, rfl, run_takeDeferred hK, ?_⟩⟩
    have k1 : Boxed (W.putObj w1.heap.size (.deferred none)) B1 3 (.int .i64 (atM (units line tab) len c : Nat)) := (World.putObj_heap_other (by omega)).trans h1
    have l1 := k1.cell
    refine ⟨.int .i64 (atM (units line tab) len c : Nat), ?_, rfl, h5.grown (grownBy_putObj' W _ _) h5.size (fun k e => by cases e; omega)⟩
    rw [results_cell1 rfl]
    clear k1
    generalize W.putObj w1.heap.size (.deferred none) = W3 at l1 ⊢
    go_simp
end Go.Proofs.YthceooehndiglaaDoor.U
