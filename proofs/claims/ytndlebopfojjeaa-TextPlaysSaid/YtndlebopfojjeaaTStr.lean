/-
  The contract of stretch.
-/
import Derived.Test.YtndlebopfojjeaaTOps
import Derived.Test.YtndlebopfojjeaaTNew
namespace Go.Proofs.Ytndlebopfojjeaa.U
open Go.RowKit
set_option linter.unusedVariables false
set_option linter.unusedSimpArgs false
set_option maxRecDepth 100000

theorem results_cct {fn : Func} {p q r : Tmp} {ty tq : TypeId} (h : fn.results = #[.cell p ty, .cell q tq, .tmp r]) (tmps : Array Value) (P : Program) (w : World) :
    (results fn tmps).run P w = ((asAddr (tmps.getD p undef)).run P w).andThen fun a w₁ => ((loadVar ty a).run P w₁).andThen fun v w₂ =>
      ((asAddr (tmps.getD q undef)).run P w₂).andThen fun b w₃ => ((loadVar tq b).run P w₃).andThen fun u w₄ => .ok (.tuple #[v, u, tmps.getD r undef]) w₄ := by
  simp only [results, h]
  simp [Sem.run_bind, Result.andThen]

/-- slices.Concat of two rows of lines, laid side by side -/
theorem cat_lines (G : Nat → Prop) (wr : World) (a1 a2 : Option Addr) (n1 c1 n2 c2 : Nat) (L M : List (List Int)) (h1 : RdL G wr a1 n1 c1 L) (h2 : RdL G wr a2 n2 c2 M) (hb : n1 + n2 ≤ 1099511627776) :
    Calls Try.prog 66 #[.slice (some ⟨wr.heap.size, 0, none⟩) 2 2] (wr.alloc (.cells #[.slice a1 n1 c1, .slice a2 n2 c2] 22)) fun e w' => ∃ a c, e = .returned (.slice a (n1 + n2) c) ∧
      RdL (fun k => G k ∨ (wr.heap.size ≤ k ∧ k < w'.heap.size)) w' a (n1 + n2) c (L ++ M) ∧ Below wr.heap.size wr w' := by
  have hb0 : Below wr.heap.size wr (wr.alloc (.cells #[.slice a1 n1 c1, .slice a2 n2 c2] 22)) := (Below.refl _ _).alloc (Nat.le_refl _) _
  have hg := heap_alloc_new wr (.cells #[.slice a1 n1 c1, .slice a2 n2 c2] 22)
  obtain ⟨vs, v1, v2, v3⟩ := h1
  obtain ⟨us, u1, u2, u3⟩ := h2
  refine (concatS wr.heap.size a1 a2 n1 c1 n2 c2 vs us _ (cell_row hg 0) (cell_row hg 1) (v1.below hb0) (u1.below hb0) v3.one1 u3.one1 hb).mono ?_
  rintro e w' ⟨a, c, rfl, ho, hbb⟩
  have hall := hb0.trans (hbb.mono hb0.size)
  refine ⟨a, c, rfl, ⟨vs ++ us, Rc.own ho, InF.own ho (fun k e => .inr ⟨by have := (ho.lt k e).1; simp at this; omega, (ho.lt k e).2⟩), ?_⟩, hall⟩
  exact ((v3.append u3).below hall).mono (fun k hk => .inl hk)

/-- what stretch tells: two places, and lines -/
def StrPost (w : World) (G : Nat → Prop) (i c j d : Nat) (M' : List (List Int)) (e : Ending) (w' : World) : Prop :=
  ∃ a n cc, e = .returned (.tuple #[.agg #[.int .i64 (i : Nat), .int .i64 (c : Nat)], .agg #[.int .i64 (j : Nat), .int .i64 (d : Nat)], .slice a n cc]) ∧ RdL (fun k => G k ∨ (w.heap.size ≤ k ∧ k < w'.heap.size)) w' a n cc M' ∧ Below w.heap.size w w'

/-- its boxes, and a row of one line of nothing -/
theorem str_start (w : World) : ∃ wb, ((w.alloc (.cells #[.int .i64 0, .int .i64 0] 30)).alloc (.cells #[.int .i64 0, .int .i64 0] 30)).alloc (.cells #[.slice none 0 0] 31) = wb ∧ Below w.heap.size w wb ∧ wb.heap.size = w.heap.size + 3 ∧
    (∀ W, Below wb.heap.size wb W → W.heap[w.heap.size]? = some (.cells #[.int .i64 0, .int .i64 0] 30 (0, 0)) ∧ W.heap[w.heap.size + 1]? = some (.cells #[.int .i64 0, .int .i64 0] 30 (0, 0)) ∧ RdL (fun k => k = w.heap.size + 2) W (some ⟨w.heap.size + 2, 0, none⟩) 1 1 [[]]) := by
  refine ⟨_, rfl, (((Below.refl _ _).alloc (Nat.le_refl _) _).alloc (by simp) _).alloc (by simp <;> omega) _, by simp, fun W hW => ⟨?_, ?_, ?_⟩⟩
  · rw [hW.block _ (by simp <;> omega), Below.heap_alloc _ _ _ (by simp <;> omega), Below.heap_alloc _ _ _ (by simp), heap_alloc_new]
  · rw [hW.block _ (by simp <;> omega), Below.heap_alloc _ _ _ (by simp)]
    have := heap_alloc_new (w.alloc (.cells #[.int .i64 0, .int .i64 0] 30)) (.cells #[.int .i64 0, .int .i64 0] 30)
    simpa using this
  · have := one_rdl ((w.alloc (.cells #[.int .i64 0, .int .i64 0] 30)).alloc (.cells #[.int .i64 0, .int .i64 0] 30)) W hW
    simpa using this

/-- what it leaves: the boxes alone were written -/
theorem str_close {G F : Nat → Prop} {w w5 W : World} {a : Option Addr} {n cc i c j d : Nat} {M' : List (List Int)} {e : Ending} (hG : ∀ k, G k → k < w.heap.size) (hr : RdL F w5 a n cc M') (hF : ∀ k, F k → G k ∨ (w.heap.size + 2 ≤ k ∧ k < w5.heap.size)) (hb : Below w.heap.size w w5) (hf : Fr (fun b => b = w.heap.size ∨ b = w.heap.size + 1) w5 W)
    (he : e = .returned (.tuple #[.agg #[.int .i64 (i : Nat), .int .i64 (c : Nat)], .agg #[.int .i64 (j : Nat), .int .i64 (d : Nat)], .slice a n cc])) : StrPost w G i c j d M' e W := by
  have hs := hf.size
  refine ⟨a, n, cc, he, (hr.frF hf (fun k hk h => ?_)).mono (fun k hk => ?_), hb.trans (hf.below hb.size (fun k h => by omega))⟩
  · rcases hF k hk with h1 | h1
    · have := hG k h1; omega
    · omega
  · rcases hF k hk with h1 | h1
    · exact .inl h1
    · exact .inr ⟨by omega, by omega⟩

set_option maxHeartbeats 4000000 in
/-- lines stand behind -/
theorem str_mid (P G : Nat → Prop) (bt ng k n : Nat) (L M : List (List Int)) (la : Option Addr) (ln lc : Nat) (w : World) (h : TX P w bt L ng) (hr : RdL G w la ln lc M) (hk : k + n < L.length) (hln : ln ≤ 1048576) (hG : ∀ k, G k → k < w.heap.size) :
    Calls Try.prog 51 #[.pointer (some ⟨bt, 0, none⟩), .int .i64 (k : Nat), .int .i64 (n : Nat), .slice la ln lc] w (StrPost w G k 0 (k + n) 0 (M ++ [[]])) := by
  have hcn := h.count
  obtain ⟨tt, F, ba, nb, bc, ps, c0, c2, hlt, hlb, hfl, F1, np, hts⟩ := h.open_
  obtain ⟨N, hN⟩ : ∃ N, L.length = N := ⟨_, rfl⟩
  rw [hN] at c2 hcn hk
  obtain ⟨wb, hwb, hB, hsb, hall⟩ := str_start w
  obtain ⟨g0, g1, hone⟩ := hall wb (Below.refl _ _)
  have d2 := (hB.cell (p := ⟨bt, 2, none⟩) hlt).trans c2
  have hl2 : bt < wb.heap.size := by omega
  have hcat := cat_lines (fun k => G k ∨ k = w.heap.size + 2) wb la (some ⟨w.heap.size + 2, 0, none⟩) ln lc 1 1 M [[]] ((hr.below hB).mono (fun k hk => .inl hk)) (hone.mono (fun k hk => .inr hk)) (by omega)
  have HCAT : Hid (Calls Try.prog 66 #[.slice (some ⟨wb.heap.size, 0, none⟩) 2 2] (wb.alloc (.cells #[.slice la ln lc, .slice (some ⟨w.heap.size + 2, 0, none⟩) 1 1] 22)) fun e w' => ∃ a c, e = .returned (.slice a (ln + 1) c) ∧
      w'.cell? ⟨w.heap.size, 0, none⟩ = some (.int .i64 0) ∧ w'.cell? ⟨w.heap.size, 1, none⟩ = some (.int .i64 0) ∧ w'.cell? ⟨w.heap.size + 1, 0, none⟩ = some (.int .i64 0) ∧ w'.cell? ⟨w.heap.size + 1, 1, none⟩ = some (.int .i64 0) ∧
      w'.frozen? ⟨w.heap.size, 0, none⟩ = false ∧ w'.frozen? ⟨w.heap.size, 1, none⟩ = false ∧ w'.frozen? ⟨w.heap.size + 1, 0, none⟩ = false ∧ w'.frozen? ⟨w.heap.size + 1, 1, none⟩ = false ∧ w.heap.size < w'.heap.size ∧ w.heap.size + 1 < w'.heap.size ∧
      Hid (RdL (fun k => (G k ∨ k = w.heap.size + 2) ∨ (wb.heap.size ≤ k ∧ k < w'.heap.size)) w' a (ln + 1) c (M ++ [[]]) ∧ Below wb.heap.size wb w')) := by
    refine hcat.mono ?_
    rintro e w' ⟨a, c, rfl, q1, q2⟩
    obtain ⟨x0, x1, _⟩ := hall w' q2
    exact ⟨a, c, rfl, cell_row x0 0, cell_row x0 1, cell_row x1 0, cell_row x1 1, frozen_row x0 0, frozen_row x0 1, frozen_row x1 0, frozen_row x1 1, heap_lt x0, heap_lt x1, q1, q2⟩
  have HWB := Lib.hid hwb
  have HSB := Lib.hid hsb
  have HB := Lib.hid hB
  have t1 : (k : Int) + (n : Int) < (N : Int) := by omega
  have HG : Hid (∀ k, G k → k < w.heap.size ∨ True) := fun k hk => .inr trivial
  clear hlb hfl hts h hr hN hwb hB hsb hall g0 g1 hone hcat c0 c2
  go_enter Try.func51, Try.ntmps51
  go_upto_region 2 with fail
  rw [HWB.out]
  go_wp2_with (go_at_call 66; refine HCAT.out.mono ?_; rintro e w5 ⟨a5, c5, rfl, x0, x1, x2, x3, z0, z1, z2, z3, l0, l1, hfin⟩)
  (try simp only [Exit.inBlock, Exit.then])
  refine bodyPost_ret (v := .tuple #[.agg #[.int .i64 (k : Nat), .int .i64 0], .agg #[.int .i64 ((k : Int) + (n : Int)), .int .i64 0], .slice a5 (ln + 1) c5]) ?_ rfl ?_
  · rw [results_cct rfl]
    go_simp
  · have hsz := HSB.out
    have hbb := hfin.out.2
    have hss := hbb.size
    refine str_close hG hfin.out.1 (fun k hk => ?_) (HB.out.trans (hbb.mono HB.out.size)) ((((Fr.refl _ _).setCell _ _ (fun _ => .inl rfl)).setCell _ _ (fun _ => .inl rfl)).setCell _ _ (fun _ => .inr rfl) |>.setCell _ _ (fun _ => .inr rfl)) (by simp)
    rcases hk with (h | h) | h
    · exact .inl h
    · exact .inr (by omega)
    · exact .inr (by omega)

/-- behind the second place's store -/
def StrS (w wb W : World) (J Z : Nat) : Prop :=
  W.heap[w.heap.size]? = some (.cells #[.int .i64 0, .int .i64 0] 30 (0, 0)) ∧ W.heap[w.heap.size + 1]? = some (.cells #[.int .i64 (J : Nat), .int .i64 (Z : Nat)] 30 (0, 0)) ∧ Fr (fun b => b = w.heap.size ∨ b = w.heap.size + 1) wb W
theorem StrS.below {w wb W W' : World} {J Z : Nat} (h : StrS w wb W J Z) (hb : Below W.heap.size W W') : StrS w wb W' J Z :=
  ⟨(hb.block _ (heap_lt h.1)).trans h.1, (hb.block _ (heap_lt h.2.1)).trans h.2.1, h.2.2.trans (Fr.of_below (fun _ => False) hb) (fun _ _ h => h.elim)⟩
theorem StrS.make {w wb W : World} {J Z : Nat} (h0 : W.heap[w.heap.size]? = some (.cells #[.int .i64 0, .int .i64 0] 30 (0, 0))) (h1 : W.heap[w.heap.size + 1]? = some (.cells #[.int .i64 0, .int .i64 0] 30 (0, 0))) (hb : Below wb.heap.size wb W) :
    StrS w wb ((W.setCell ⟨w.heap.size + 1, 0, none⟩ (.int .i64 (J : Nat))).setCell ⟨w.heap.size + 1, 1, none⟩ (.int .i64 (Z : Nat))) J Z :=
  ⟨(Below.heap_setCell _ _ _ _ (by simp)).trans ((Below.heap_setCell _ _ _ _ (by simp)).trans h0), heap_set (heap_set h1 0 _) 1 _, ((Fr.of_below _ hb).setCell _ _ (fun _ => .inr rfl)).setCell _ _ (fun _ => .inr rfl)⟩
theorem last_at {L : List (List Int)} (h : L ≠ []) : L[L.length - 1]? = some (L.getLast h) := by rw [← List.getLast?_eq_getElem?, List.getLast?_eq_some_getLast h]
theorem place_last {L : List (List Int)} (h : L ≠ []) : findP (lens L) (joinL L).length = (L.length - 1, (L.getLast h).length) := by
  have h1 := last_at h
  have h2 := findP_of (lens L) (L.length - 1) (L.getLast h).length _ (lens_at h1) (Nat.le_refl _)
  have h3 := (row_cut h1 (Nat.le_refl _)).2
  have h4 := off_le h1 (Nat.le_refl _)
  rw [List.drop_length, List.nil_append, show L.length - 1 + 1 = L.length from by have := List.length_pos_iff.2 h; omega, List.drop_length, joinE_nil] at h3
  have h5 := congrArg List.length h3
  simp only [List.length_append, List.length_drop, List.length_cons, List.length_nil] at h5
  rw [show (joinL L).length = sizeN ((lens L).take (L.length - 1)) + (L.getLast h).length from by omega]
  exact h2

def CatPost (G : Nat → Prop) (w : World) (J Z ln : Nat) (M' : List (List Int)) (e : Ending) (w' : World) : Prop := ∃ a c, e = .returned (.slice a (1 + ln) c) ∧
        w'.cell? ⟨w.heap.size, 0, none⟩ = some (.int .i64 0) ∧ w'.cell? ⟨w.heap.size, 1, none⟩ = some (.int .i64 0) ∧ w'.cell? ⟨w.heap.size + 1, 0, none⟩ = some (.int .i64 (J : Nat)) ∧ w'.cell? ⟨w.heap.size + 1, 1, none⟩ = some (.int .i64 (Z : Nat)) ∧
        w'.frozen? ⟨w.heap.size, 0, none⟩ = false ∧ w'.frozen? ⟨w.heap.size, 1, none⟩ = false ∧ w'.frozen? ⟨w.heap.size + 1, 0, none⟩ = false ∧ w'.frozen? ⟨w.heap.size + 1, 1, none⟩ = false ∧ w.heap.size < w'.heap.size ∧ w.heap.size + 1 < w'.heap.size ∧
        Hid (∃ F : Nat → Prop, RdL F w' a (1 + ln) c M' ∧ (∀ k, F k → G k ∨ (w.heap.size + 2 ≤ k ∧ k < w'.heap.size)) ∧ Below w.heap.size w w')
set_option maxHeartbeats 4000000 in
/-- no lines stand behind, some ahead -/
theorem str_end (P G : Nat → Prop) (bt ng k n : Nat) (L M : List (List Int)) (x z : List Int) (la : Option Addr) (ln lc : Nat) (w : World) (h : TX P w bt L ng) (hr : RdL G w la ln lc M) (hk : k + 1 + n = L.length) (hx : L[k]? = some x) (hz : L[L.length - 1]? = some z) (hln : ln ≤ 1048576) (hG : ∀ k, G k → k < w.heap.size) :
    Calls Try.prog 51 #[.pointer (some ⟨bt, 0, none⟩), .int .i64 ((k + 1 : Nat) : Int), .int .i64 (n : Nat), .slice la ln lc] w (StrPost w G k x.length (L.length - 1) z.length ([] :: M)) := by
  have hcn := h.count
  have hrow := h.row
  have hne := h.ne
  have hpl := place_last hne
  rw [last_at hne] at hz
  cases hz
  have hjs := joinL_len hne
  have hxl : x.length ≤ 65536 := by have := off_le hx (Nat.le_refl _); omega
  obtain ⟨tt, F, ba, nb, bc, ps, c0, c2, hlt, hlb, hfl, F1, np, hts⟩ := h.open_
  unfold ifv at c0
  obtain ⟨wb, hwb, hB, hsb, hall⟩ := str_start w
  have HLEN : Hid (∀ W, Below w.heap.size w W → Calls Try.prog 105 #[.pointer (some ⟨tt, 0, none⟩)] W fun e w' => e = .returned (.int .i64 ((joinL L).length : Nat)) ∧ W = w') := fun W hW => ts_len _ _ _ _ _ _ W (hts.below hW)
  obtain ⟨Z, hZ⟩ : ∃ Z, (L.getLast hne).length = Z := ⟨_, rfl⟩
  obtain ⟨J, hJ⟩ : ∃ J, L.length - 1 = J := ⟨_, rfl⟩
  rw [hZ, hJ] at hpl
  rw [hZ, hJ]
  have HPL : Hid (∀ W, Below wb.heap.size wb W → Calls Try.prog 39 #[.pointer (some ⟨bt, 1, none⟩), .int .i64 ((joinL L).length : Nat)] W fun e w' => e = .returned (.agg #[.int .i64 (J : Nat), .int .i64 (Z : Nat)]) ∧
      w'.cell? ⟨w.heap.size + 1, 0, none⟩ = some (.int .i64 0) ∧ w'.cell? ⟨w.heap.size + 1, 1, none⟩ = some (.int .i64 0) ∧ w'.frozen? ⟨w.heap.size + 1, 0, none⟩ = false ∧ w'.frozen? ⟨w.heap.size + 1, 1, none⟩ = false ∧ w.heap.size + 1 < w'.heap.size ∧ Hid (Below wb.heap.size wb w')) := by
    intro W hW
    have := tplace_any F bt ba nb bc ps L.length (joinL L).length W ((hlb.below hB).below hW) (by rw [hfl]; omega)
    rw [hfl, hpl] at this
    refine this.mono ?_
    rintro e w' ⟨rfl, hb⟩
    have hbb := hW.trans (hb.mono hW.size)
    obtain ⟨x0, x1, _⟩ := hall w' hbb
    exact ⟨rfl, cell_row x1 0, cell_row x1 1, frozen_row x1 0, frozen_row x1 1, heap_lt x1, hbb⟩
  obtain ⟨R, hR⟩ : ∃ R, (joinL L).length = R := ⟨_, rfl⟩
  rw [hR] at HLEN HPL hrow
  obtain ⟨X, hX⟩ : ∃ X, x.length = X := ⟨_, rfl⟩
  rw [hX] at hxl ⊢
  have hfb : ∀ (W : World), Below wb.heap.size wb W → Fr (fun b => b = w.heap.size ∨ b = w.heap.size + 1) wb W := fun W hW => Fr.of_below _ hW
  -- a world in which the boxes alone were written since the start
  have HLN : Hid (∀ W, Fr (fun b => b = w.heap.size ∨ b = w.heap.size + 1) wb W → Calls Try.prog 37 #[.pointer (some ⟨bt, 1, none⟩), .int .i64 (k : Nat)] W fun e w' => ∃ q : Nat, e = .returned (.tuple #[.int .i64 (q : Nat), .int .i64 (X : Nat)]) ∧ Below W.heap.size W w') := by
    intro W hW
    have hb := hB.trans (hW.below (by omega) (fun k h => by omega))
    have := tline_any F bt ba nb bc ps L.length k W (hlb.below hb) (by omega)
    rw [hfl, List.getD_eq_getElem?_getD, lens_at hx, Option.getD_some, hX] at this
    refine this.mono ?_
    rintro e w' ⟨rfl, hbb⟩
    exact ⟨_, rfl, hbb⟩
  obtain ⟨g0, g1, hone⟩ := hall wb (Below.refl _ _)
  have d2 : wb.cell? ⟨bt, 2, none⟩ = some (.int .i64 (L.length : Nat)) := (hB.cell (p := ⟨bt, 2, none⟩) hlt).trans c2
  have d0 : wb.cell? ⟨bt, 0, none⟩ = _ := (hB.cell (p := ⟨bt, 0, none⟩) hlt).trans c0
  have hl2 : bt < wb.heap.size := by omega
  have HALL := Lib.hid hall
  have HWB := Lib.hid hwb
  have HSB := Lib.hid hsb
  have HB := Lib.hid hB
  have HR := Lib.hid hr
  have HCAT : Hid (∀ W, Fr (fun b => b = w.heap.size ∨ b = w.heap.size + 1) wb W → Calls Try.prog 66 #[.slice (some ⟨W.heap.size, 0, none⟩) 2 2] (W.alloc (.cells #[.slice (some ⟨w.heap.size + 2, 0, none⟩) 1 1, .slice la ln lc] 22)) fun e w' => ∃ a c, e = .returned (.slice a (1 + ln) c) ∧
      RdL (fun k => (G k ∨ k = w.heap.size + 2) ∨ (W.heap.size ≤ k ∧ k < w'.heap.size)) w' a (1 + ln) c ([] :: M) ∧ Below W.heap.size W w') := by
    intro W hW
    have q1 : RdL (fun k => G k ∨ k = w.heap.size + 2) W (some ⟨w.heap.size + 2, 0, none⟩) 1 1 [[]] := (hone.frF hW (fun k hk h => by omega)).mono (fun k hk => .inr hk)
    have q2 : RdL (fun k => G k ∨ k = w.heap.size + 2) W la ln lc M := ((hr.below hB).frF hW (fun k hk h => by have := hG k hk; omega)).mono (fun k hk => .inl hk)
    exact cat_lines _ W (some ⟨w.heap.size + 2, 0, none⟩) la 1 1 ln lc [[]] M q1 q2 (by omega)
  have t1 : ¬ ((k : Int) + 1 + (n : Int) < (L.length : Int)) := by omega
  obtain ⟨N, hN⟩ : ∃ N, L.length = N := ⟨_, rfl⟩
  rw [hN] at d2 t1 hcn hk
  clear hlb hfl hts h hr hx hwb hB hsb hall g0 g1 hone c0 c2 hpl hR hX hZ hJ hfb hjs hN
  go_enter Try.func51, Try.ntmps51
  go_upto_region 2 with fail
  rw [HWB.out]
  go_upto_region 4 with fail
  go_cut [34] (fun v34 wx => Hid (StrS w wb wx J Z))
  case first =>
    go_region_with (first
      | (go_at_call 105; refine (HLEN.out _ (by first | exact HB.out | exact HB.out.drew)).mono ?_; rintro e w' ⟨rfl, rfl⟩)
      | (go_at_call 39; refine (HPL.out _ (by first | exact Below.refl _ _ | exact (Below.refl _ _).drew)).mono ?_; rintro e w5 ⟨rfl, x2, x3, z2, z3, l1, hb5⟩))
    all_goals
      go_wp2_with fail
      go_meet
      have hm := StrS.make (J := J) (Z := Z) (HALL.out w5 hb5.out).1 (HALL.out w5 hb5.out).2.1 hb5.out
      first | exact hm | exact hm.below (Below.refl _ _).drew
  case rest =>
    obtain ⟨w4, rfl⟩ : ∃ w4, w4 = wc := ⟨_, rfl⟩
    have h4 := hcut
    have t2 : (0 : Int) < (k : Int) + 1 := by omega
    have HLN4 := Lib.hid (HLN.out w4 h4.out.2.2)
    clear d0 d2 hl2 HLEN HPL
    go_wp2_with fail
    refine HLN4.out.mono ?_
    rintro e w5 ⟨q, rfl, hb5⟩
    have h5 : Hid (StrS w wb w5 J Z) := h4.out.below hb5
    have y0 : w5.cell? ⟨w.heap.size + 1, 0, none⟩ = some (.int .i64 (J : Nat)) := cell_row h5.out.2.1 0
    have y1 : w5.cell? ⟨w.heap.size + 1, 1, none⟩ = some (.int .i64 (Z : Nat)) := cell_row h5.out.2.1 1
    have ly := heap_lt h5.out.2.1
    have q1 : IntKind.i64.wrap ((k : Int) + 1 - 1) = (k : Int) := by rw [IntKind.wrap_i64]; omega
    have q0 : IntKind.i64.wrap (k : Int) = (k : Int) := by rw [IntKind.wrap_i64]; omega
    have HCAT5 : Hid (∀ W, Below w5.heap.size w5 W → Calls Try.prog 66 #[.slice (some ⟨W.heap.size, 0, none⟩) 2 2] (W.alloc (.cells #[.slice (some ⟨w.heap.size + 2, 0, none⟩) 1 1, .slice la ln lc] 22)) (CatPost G w J Z ln ([] :: M))) := by
      intro W hW
      have hS := h5.out.below hW
      have hbW := HB.out.trans (hS.2.2.below (by have := HSB.out; omega) (fun k h => by omega))
      have hsW := hS.2.2.size
      have hsb := HSB.out
      refine (HCAT.out W hS.2.2).mono ?_
      rintro e w' ⟨a, c, rfl, r1, r2⟩
      have hS' := hS.below r2
      have hs' := r2.size
      exact ⟨a, c, rfl, cell_row hS'.1 0, cell_row hS'.1 1, cell_row hS'.2.1 0, cell_row hS'.2.1 1, frozen_row hS'.1 0, frozen_row hS'.1 1, frozen_row hS'.2.1 0, frozen_row hS'.2.1 1, heap_lt hS'.1, heap_lt hS'.2.1, _, r1, fun k hk => by
        rcases hk with (h | h) | h
        · exact .inl h
        · exact .inr (by omega)
        · exact .inr (by omega), hbW.trans (r2.mono hbW.size)⟩
    have HCAT5D : Hid (Calls Try.prog 66 #[.slice (some ⟨w5.heap.size, 0, none⟩) 2 2] (w5.alloc (.cells #[.slice (some ⟨w.heap.size + 2, 0, none⟩) 1 1, .slice la ln lc] 22)).drew (CatPost G w J Z ln ([] :: M))) := HCAT5.out w5.drew (Below.refl _ _).drew
    clear h4 hb5 HLN4
    go_wp2_with fail
    go_region_with (go_at_call 66; (first | refine (HCAT5.out w5 (Below.refl _ _)).mono ?_ | refine HCAT5D.out.mono ?_); rintro e w6 ⟨a5, c5, rfl, x0, x1, x2, x3, z0, z1, z2, z3, l0, l1, hfin⟩)
    all_goals
      go_wp2_with fail
      (try simp only [Exit.inBlock, Exit.then])
      refine bodyPost_ret (v := .tuple #[.agg #[.int .i64 (k : Nat), .int .i64 (X : Nat)], .agg #[.int .i64 (J : Nat), .int .i64 (Z : Nat)], .slice a5 (1 + ln) c5]) ?_ rfl ?_
      · rw [results_cct rfl]
        go_simp
      · obtain ⟨FF, r1, r2, r3⟩ := hfin.out
        have hf0 := ((((Fr.refl (fun b => b = w.heap.size ∨ b = w.heap.size + 1) w6).setCell ⟨w.heap.size, 0, none⟩ (.int .i64 (k : Nat)) (fun _ => .inl rfl)).setCell ⟨w.heap.size, 1, none⟩ (.int .i64 (X : Nat)) (fun _ => .inl rfl)).setCell ⟨w.heap.size + 1, 0, none⟩ (.int .i64 (J : Nat)) (fun _ => .inr rfl)).setCell ⟨w.heap.size + 1, 1, none⟩ (.int .i64 (Z : Nat)) (fun _ => .inr rfl)
        first
          | exact str_close hG r1 r2 r3 hf0 rfl
          | exact str_close hG r1 r2 r3 hf0.drew rfl

set_option maxHeartbeats 4000000 in
/-- all lines -/
theorem str_all (P G : Nat → Prop) (bt ng : Nat) (L M : List (List Int)) (z : List Int) (la : Option Addr) (ln lc : Nat) (w : World) (h : TX P w bt L ng) (hr : RdL G w la ln lc M) (hz : L[L.length - 1]? = some z) (hG : ∀ k, G k → k < w.heap.size) :
    Calls Try.prog 51 #[.pointer (some ⟨bt, 0, none⟩), .int .i64 0, .int .i64 (L.length : Nat), .slice la ln lc] w (StrPost w G 0 0 (L.length - 1) z.length (normL M)) := by
  have hcn := h.count
  have hrow := h.row
  have hne := h.ne
  have hpl := place_last hne
  rw [last_at hne] at hz
  cases hz
  have hjs := joinL_len hne
  have hml := hr.len
  have hlsm := hr.small
  obtain ⟨tt, F, ba, nb, bc, ps, c0, c2, hlt, hlb, hfl, F1, np, hts⟩ := h.open_
  unfold ifv at c0
  obtain ⟨wb, hwb, hB, hsb, hall⟩ := str_start w
  have HLEN : Hid (∀ W, Below w.heap.size w W → Calls Try.prog 105 #[.pointer (some ⟨tt, 0, none⟩)] W fun e w' => e = .returned (.int .i64 ((joinL L).length : Nat)) ∧ W = w') := fun W hW => ts_len _ _ _ _ _ _ W (hts.below hW)
  obtain ⟨Z, hZ⟩ : ∃ Z, (L.getLast hne).length = Z := ⟨_, rfl⟩
  obtain ⟨J, hJ⟩ : ∃ J, L.length - 1 = J := ⟨_, rfl⟩
  rw [hZ, hJ] at hpl
  rw [hZ, hJ]
  have HPL : Hid (∀ W, Below wb.heap.size wb W → Calls Try.prog 39 #[.pointer (some ⟨bt, 1, none⟩), .int .i64 ((joinL L).length : Nat)] W fun e w' => e = .returned (.agg #[.int .i64 (J : Nat), .int .i64 (Z : Nat)]) ∧
      w'.cell? ⟨w.heap.size + 1, 0, none⟩ = some (.int .i64 0) ∧ w'.cell? ⟨w.heap.size + 1, 1, none⟩ = some (.int .i64 0) ∧ w'.frozen? ⟨w.heap.size + 1, 0, none⟩ = false ∧ w'.frozen? ⟨w.heap.size + 1, 1, none⟩ = false ∧ w.heap.size + 1 < w'.heap.size ∧ Hid (Below wb.heap.size wb w')) := by
    intro W hW
    have := tplace_any F bt ba nb bc ps L.length (joinL L).length W ((hlb.below hB).below hW) (by rw [hfl]; omega)
    rw [hfl, hpl] at this
    refine this.mono ?_
    rintro e w' ⟨rfl, hb⟩
    have hbb := hW.trans (hb.mono hW.size)
    obtain ⟨x0, x1, _⟩ := hall w' hbb
    exact ⟨rfl, cell_row x1 0, cell_row x1 1, frozen_row x1 0, frozen_row x1 1, heap_lt x1, hbb⟩
  obtain ⟨R, hR⟩ : ∃ R, (joinL L).length = R := ⟨_, rfl⟩
  rw [hR] at HLEN HPL hrow
  obtain ⟨g0, g1, hone⟩ := hall wb (Below.refl _ _)
  have d2 : wb.cell? ⟨bt, 2, none⟩ = some (.int .i64 (L.length : Nat)) := (hB.cell (p := ⟨bt, 2, none⟩) hlt).trans c2
  have d0 : wb.cell? ⟨bt, 0, none⟩ = _ := (hB.cell (p := ⟨bt, 0, none⟩) hlt).trans c0
  have hl2 : bt < wb.heap.size := by omega
  -- the two rows that may be told
  have HRW : Hid (∀ W, Fr (fun b => b = w.heap.size ∨ b = w.heap.size + 1) wb W → RdL G W la ln lc M ∧ RdL (fun k => k = w.heap.size + 2) W (some ⟨w.heap.size + 2, 0, none⟩) 1 1 [[]] ∧ Below w.heap.size w W) := fun W hW =>
    ⟨(hr.below hB).frF hW (fun k hk h => by have := hG k hk; omega), hone.frF hW (fun k hk h => by omega), hB.trans (hW.below (by omega) (fun k h => by omega))⟩
  have HALL := Lib.hid hall
  have HWB := Lib.hid hwb
  have HSB := Lib.hid hsb
  have HB := Lib.hid hB
  have HML := Lib.hid hml
  obtain ⟨N, hN⟩ : ∃ N, L.length = N := ⟨_, rfl⟩
  rw [hN] at d2 hcn ⊢
  have t1 : ¬ ((0 : Int) + (N : Int) < (N : Int)) := by omega
  clear hlb hfl hts h hr hwb hB hsb hall g0 g1 hone c0 c2 hpl hR hZ hJ hjs hN hml
  by_cases hl0 : ln = 0
  · have t3 : ((ln : Int) == 0) = true := by simp; omega
    have hM : M = [] := List.eq_nil_of_length_eq_zero (by have := HML.out; omega)
    have HN : Hid (normL M = [[]]) := by show _ = _; rw [hM]; rfl
    clear hM hl0
    go_enter Try.func51, Try.ntmps51
    go_upto_region 2 with fail
    rw [HWB.out]
    go_upto_region 4 with fail
    go_cut [34] (fun v34 wx => Hid (StrS w wb wx J Z))
    case first =>
      go_region_with (first
        | (go_at_call 105; refine (HLEN.out _ (by first | exact HB.out | exact HB.out.drew)).mono ?_; rintro e w' ⟨rfl, rfl⟩)
        | (go_at_call 39; refine (HPL.out _ (by first | exact Below.refl _ _ | exact (Below.refl _ _).drew)).mono ?_; rintro e w5 ⟨rfl, x2, x3, z2, z3, l1, hb5⟩))
      all_goals
        go_wp2_with fail
        go_meet
        have hm := StrS.make (J := J) (Z := Z) (HALL.out w5 hb5.out).1 (HALL.out w5 hb5.out).2.1 hb5.out
        first | exact hm | exact hm.below (Below.refl _ _).drew
    case rest =>
      obtain ⟨w4, rfl⟩ : ∃ w4, w4 = wc := ⟨_, rfl⟩
      have h4 := hcut
      have r0 : w4.cell? ⟨w.heap.size, 0, none⟩ = some (.int .i64 0) := cell_row h4.out.1 0
      have r1 : w4.cell? ⟨w.heap.size, 1, none⟩ = some (.int .i64 0) := cell_row h4.out.1 1
      have y0 : w4.cell? ⟨w.heap.size + 1, 0, none⟩ = some (.int .i64 (J : Nat)) := cell_row h4.out.2.1 0
      have y1 : w4.cell? ⟨w.heap.size + 1, 1, none⟩ = some (.int .i64 (Z : Nat)) := cell_row h4.out.2.1 1
      have rz0 := frozen_row h4.out.1 0
      have rz1 := frozen_row h4.out.1 1
      have yz0 := frozen_row h4.out.2.1 0
      have yz1 := frozen_row h4.out.2.1 1
      have ly := heap_lt h4.out.2.1
      have lr := heap_lt h4.out.1
      clear d0 d2 hl2 HLEN HPL
      go_wp2_with fail
      go_region
      all_goals
        go_wp2_with fail
        (try simp only [Exit.inBlock, Exit.then])
        refine bodyPost_ret (v := .tuple #[.agg #[.int .i64 0, .int .i64 0], .agg #[.int .i64 (J : Nat), .int .i64 (Z : Nat)], .slice (some ⟨w.heap.size + 2, 0, none⟩) 1 1]) ?_ rfl ?_
        · rw [results_cct rfl]
          go_simp
        · obtain ⟨_, r2, r3⟩ := HRW.out w4 h4.out.2.2
          have hs4 := h4.out.2.2.size
          have hsb := HSB.out
          rw [HN.out]
          have hf0 := ((((Fr.refl (fun b => b = w.heap.size ∨ b = w.heap.size + 1) w4).setCell ⟨w.heap.size, 0, none⟩ (.int .i64 0) (fun _ => .inl rfl)).setCell ⟨w.heap.size, 1, none⟩ (.int .i64 0) (fun _ => .inl rfl)).setCell ⟨w.heap.size + 1, 0, none⟩ (.int .i64 (J : Nat)) (fun _ => .inr rfl)).setCell ⟨w.heap.size + 1, 1, none⟩ (.int .i64 (Z : Nat)) (fun _ => .inr rfl)
          first
            | exact str_close hG r2 (fun k hk => .inr (by omega)) r3 hf0 rfl
            | exact str_close hG r2 (fun k hk => .inr (by omega)) r3 hf0.drew rfl
  · have t3 : ((ln : Int) == 0) = false := by simp; omega
    have hM : M ≠ [] := by intro e; have := HML.out; rw [e] at this; simp at this; omega
    have HN : Hid (normL M = M) := by show _ = _; exact if_neg hM
    clear hM hl0
    go_enter Try.func51, Try.ntmps51
    go_upto_region 2 with fail
    rw [HWB.out]
    go_upto_region 4 with fail
    go_cut [34] (fun v34 wx => Hid (StrS w wb wx J Z))
    case first =>
      go_region_with (first
        | (go_at_call 105; refine (HLEN.out _ (by first | exact HB.out | exact HB.out.drew)).mono ?_; rintro e w' ⟨rfl, rfl⟩)
        | (go_at_call 39; refine (HPL.out _ (by first | exact Below.refl _ _ | exact (Below.refl _ _).drew)).mono ?_; rintro e w5 ⟨rfl, x2, x3, z2, z3, l1, hb5⟩))
      all_goals
        go_wp2_with fail
        go_meet
        have hm := StrS.make (J := J) (Z := Z) (HALL.out w5 hb5.out).1 (HALL.out w5 hb5.out).2.1 hb5.out
        first | exact hm | exact hm.below (Below.refl _ _).drew
    case rest =>
      obtain ⟨w4, rfl⟩ : ∃ w4, w4 = wc := ⟨_, rfl⟩
      have h4 := hcut
      have r0 : w4.cell? ⟨w.heap.size, 0, none⟩ = some (.int .i64 0) := cell_row h4.out.1 0
      have r1 : w4.cell? ⟨w.heap.size, 1, none⟩ = some (.int .i64 0) := cell_row h4.out.1 1
      have y0 : w4.cell? ⟨w.heap.size + 1, 0, none⟩ = some (.int .i64 (J : Nat)) := cell_row h4.out.2.1 0
      have y1 : w4.cell? ⟨w.heap.size + 1, 1, none⟩ = some (.int .i64 (Z : Nat)) := cell_row h4.out.2.1 1
      have rz0 := frozen_row h4.out.1 0
      have rz1 := frozen_row h4.out.1 1
      have yz0 := frozen_row h4.out.2.1 0
      have yz1 := frozen_row h4.out.2.1 1
      have ly := heap_lt h4.out.2.1
      have lr := heap_lt h4.out.1
      clear d0 d2 hl2 HLEN HPL
      go_wp2_with fail
      go_region
      all_goals
        go_wp2_with fail
        (try simp only [Exit.inBlock, Exit.then])
        refine bodyPost_ret (v := .tuple #[.agg #[.int .i64 0, .int .i64 0], .agg #[.int .i64 (J : Nat), .int .i64 (Z : Nat)], .slice la ln lc]) ?_ rfl ?_
        · rw [results_cct rfl]
          go_simp
        · obtain ⟨r2, _, r3⟩ := HRW.out w4 h4.out.2.2
          rw [HN.out]
          have hf0 := ((((Fr.refl (fun b => b = w.heap.size ∨ b = w.heap.size + 1) w4).setCell ⟨w.heap.size, 0, none⟩ (.int .i64 0) (fun _ => .inl rfl)).setCell ⟨w.heap.size, 1, none⟩ (.int .i64 0) (fun _ => .inl rfl)).setCell ⟨w.heap.size + 1, 0, none⟩ (.int .i64 (J : Nat)) (fun _ => .inr rfl)).setCell ⟨w.heap.size + 1, 1, none⟩ (.int .i64 (Z : Nat)) (fun _ => .inr rfl)
          first
            | exact str_close hG r2 (fun k hk => .inl hk) r3 hf0 rfl
            | exact str_close hG r2 (fun k hk => .inl hk) r3 hf0.drew rfl
end Go.Proofs.Ytndlebopfojjeaa.U
