/-
  The contracts of Place, Line, between, Slice.
-/
import Derived.Test.YtndlebopfojjeaaTText
namespace Go.Proofs.Ytndlebopfojjeaa.U
open Go.RowKit
set_option linter.unusedVariables false
set_option linter.unusedSimpArgs false
set_option maxRecDepth 100000

theorem results_ct {fn : Func} {p q : Tmp} {ty : TypeId} (h : fn.results = #[.cell p ty, .tmp q]) (tmps : Array Value) (P : Program) (w : World) :
    (results fn tmps).run P w = ((asAddr (tmps.getD p undef)).run P w).andThen fun a w₁ => ((loadVar ty a).run P w₁).andThen fun v w₂ => .ok (.tuple #[v, tmps.getD q undef]) w₂ := by
  simp only [results, h]
  simp [Sem.run_bind, Result.andThen]

theorem place_ok (P : Nat → Prop) (bt ng m : Nat) (L : List (List Int)) (w : World) (h : TX P w bt L ng) (hm : m ≤ (joinL L).length) :
    Calls Try.prog 19 #[.pointer (some ⟨bt, 0, none⟩), .int .i64 (m : Nat)] w fun e w' => e = .returned (.tuple #[.agg #[.int .i64 ((findP (lens L) m).1 : Nat), .int .i64 ((findP (lens L) m).2 : Nat)], .int .i64 0]) ∧ Below w.heap.size w w' := by
  have hrow := h.row
  have hjl := joinL_len h.ne
  obtain ⟨tt, F, a, n, c, ps, c0, c2, hlt, hlb, hfl, F1, np, hts⟩ := h.open_
  unfold ifv at c0
  have hB0 : Below w.heap.size w (w.alloc (.cells #[.int .i64 0, .int .i64 0] 30)) := (Below.refl _ _).alloc (Nat.le_refl _) _
  have HLEN : Hid (∀ W, Below w.heap.size w W → Calls Try.prog 105 #[.pointer (some ⟨tt, 0, none⟩)] W fun e w' => e = .returned (.int .i64 ((joinL L).length : Nat)) ∧ W = w') := fun W hW => ts_len _ _ _ _ _ _ W (hts.below hW)
  have HPL : Hid (∀ W, Below w.heap.size w W → Calls Try.prog 39 #[.pointer (some ⟨bt, 1, none⟩), .int .i64 (m : Nat)] W fun e w' => e = .returned (.agg #[.int .i64 ((findP (lens L) m).1 : Nat), .int .i64 ((findP (lens L) m).2 : Nat)]) ∧ Below W.heap.size W w') := by
    intro W hW
    have := tplace_any F bt a n c ps L.length m W (hlb.below hW) (by rw [hfl]; omega)
    rw [hfl] at this
    exact this
  obtain ⟨RL, hRL⟩ : ∃ RL, (findP (lens L) m).1 = RL := ⟨_, rfl⟩
  obtain ⟨RC, hRC⟩ : ∃ RC, (findP (lens L) m).2 = RC := ⟨_, rfl⟩
  obtain ⟨N, hN⟩ : ∃ N, (joinL L).length = N := ⟨_, rfl⟩
  rw [hRL, hRC] at HPL ⊢
  rw [hN] at HLEN hm hrow
  obtain ⟨wb, hwb⟩ : ∃ wb, w.alloc (.cells #[.int .i64 0, .int .i64 0] 30) = wb := ⟨_, rfl⟩
  rw [hwb] at hB0
  have hg : wb.heap[w.heap.size]? = some (.cells #[.int .i64 0, .int .i64 0] 30 (0, 0)) := by rw [← hwb]; exact heap_alloc_new w _
  have d0 := (hB0.cell (p := ⟨bt, 0, none⟩) hlt).trans c0
  have hltb : bt < wb.heap.size := by have := hB0.size; omega
  have t1 : decide ((m : Int) < 0) = false := by simp
  have t1' : ¬ ((m : Int) < 0) := by omega
  have t2 : ¬ ((N : Int) < (m : Int)) := by omega
  have HWB := Lib.hid hwb
  have HB0 := Lib.hid hB0
  have HG := Lib.hid hg
  clear hlb hfl hts h hRL hRC hN hwb hB0 hg c0 c2 hjl
  go_enter Try.func19, Try.ntmps19
  go_upto_region 1 with fail
  rw [HWB.out]
  go_wp2_with (go_at_call 105; refine (HLEN.out _ HB0.out).mono ?_; rintro e w' ⟨rfl, rfl⟩)
  refine (HPL.out _ HB0.out).mono ?_
  rintro e w1 ⟨rfl, hb1⟩
  have hg1 := (hb1.block _ (heap_lt HG.out)).trans HG.out
  have s0 : w1.cell? ⟨w.heap.size, 0, none⟩ = some (.int .i64 0) := cell_row hg1 0
  have s1 : w1.cell? ⟨w.heap.size, 1, none⟩ = some (.int .i64 0) := cell_row hg1 1
  have z0 := frozen_row hg1 0
  have z1 := frozen_row hg1 1
  have hl1 := heap_lt hg1
  have HB1 := Lib.hid (HB0.out.trans (hb1.mono HB0.out.size))
  clear hb1 hg1
  go_wp2_with fail
  (try simp only [Exit.inBlock, Exit.then])
  refine bodyPost_ret (v := .tuple #[.agg #[.int .i64 (RL : Nat), .int .i64 (RC : Nat)], .int .i64 0]) ?_ rfl ⟨rfl, ?_⟩
  · rw [results_ct rfl]
    go_simp
  · exact (HB1.out.setCell (by simp) _).setCell (by simp) _

theorem place_err (P : Nat → Prop) (bt ng : Nat) (m : Int) (L : List (List Int)) (w : World) (h : TX P w bt L ng) (hm : m < 0 ∨ ((joinL L).length : Int) < m) (hmb : i64b m) :
    Calls Try.prog 19 #[.pointer (some ⟨bt, 0, none⟩), .int .i64 m] w fun e w' => e = .returned (.tuple #[.agg #[.int .i64 0, .int .i64 0], .int .i64 2]) ∧ Below w.heap.size w w' := by
  have hrow := h.row
  obtain ⟨tt, F, a, n, c, ps, c0, c2, hlt, hlb, hfl, F1, np, hts⟩ := h.open_
  unfold ifv at c0
  unfold i64b at hmb
  have HLEN : Hid (∀ W, Below w.heap.size w W → Calls Try.prog 105 #[.pointer (some ⟨tt, 0, none⟩)] W fun e w' => e = .returned (.int .i64 ((joinL L).length : Nat)) ∧ W = w') := fun W hW => ts_len _ _ _ _ _ _ W (hts.below hW)
  obtain ⟨N, hN⟩ : ∃ N, (joinL L).length = N := ⟨_, rfl⟩
  rw [hN] at HLEN hm hrow
  clear hlb hfl hts h hN c2
  rcases hm with hm | hm
  · have t1 : decide (m < 0) = true := by simp; exact hm
    clear HLEN c0
    go_enter Try.func19, Try.ntmps19
    go_wp2_with fail
    (try simp only [Exit.inBlock, Exit.then])
    refine bodyPost_ret (v := .tuple #[.agg #[.int .i64 0, .int .i64 0], .int .i64 2]) ?_ rfl ⟨rfl, ?_⟩
    · rw [results_ct rfl]
      go_simp
    · exact (Below.refl _ _).alloc (Nat.le_refl _) _
  · have t1 : decide (m < 0) = false := by simp; omega
    have t1' : ¬ (m < 0) := by omega
    go_enter Try.func19, Try.ntmps19
    go_wp2_with (go_at_call 105; refine (HLEN.out _ ((Below.refl _ _).alloc (Nat.le_refl _) _)).mono ?_; rintro e w' ⟨rfl, rfl⟩)
    (try simp only [Exit.inBlock, Exit.then])
    refine bodyPost_ret (v := .tuple #[.agg #[.int .i64 0, .int .i64 0], .int .i64 2]) ?_ rfl ⟨rfl, ?_⟩
    · rw [results_ct rfl]
      go_simp
    · exact (Below.refl _ _).alloc (Nat.le_refl _) _

def PlaceVal (L : List (List Int)) (n : Int) : Value := .tuple #[.agg #[.int .i64 (placeR L n).1, .int .i64 (placeR L n).2.1], .int .i64 (placeR L n).2.2]
theorem place_any (P : Nat → Prop) (bt ng : Nat) (m : Int) (L : List (List Int)) (w : World) (h : TX P w bt L ng) (hmb : i64b m) :
    Calls Try.prog 19 #[.pointer (some ⟨bt, 0, none⟩), .int .i64 m] w fun e w' => e = .returned (.tuple #[.agg #[.int .i64 (placeR L m).1, .int .i64 (placeR L m).2.1], .int .i64 (placeR L m).2.2]) ∧ Below w.heap.size w w' := by
  unfold placeR
  by_cases hh : 0 ≤ m ∧ m ≤ (joinL L).length
  · rw [if_pos hh]
    obtain ⟨k, rfl⟩ : ∃ k : Nat, m = k := ⟨m.toNat, by omega⟩
    rw [Int.toNat_natCast]
    exact place_ok P bt ng k L w h (by omega)
  · rw [if_neg hh]
    exact place_err P bt ng m L w h (by omega) hmb

theorem line_cut {L : List (List Int)} {i : Nat} {x : List Int} (hx : L[i]? = some x) : ((joinL L).drop (sizeN ((lens L).take i))).take x.length = x ∧ sizeN ((lens L).take i) + x.length ≤ (joinL L).length := by
  have h1 := (row_cut hx (Nat.zero_le _)).2
  have h2 := off_le hx (Nat.le_refl _)
  rw [Nat.add_zero, List.drop_zero] at h1
  refine ⟨?_, h2⟩
  have h3 := congrArg (List.take x.length) h1
  rw [List.take_append_of_le_length (by rw [List.length_drop]; omega), List.take_left' rfl] at h3
  exact h3

theorem line_ok (P : Nat → Prop) (bt ng k : Nat) (L : List (List Int)) (x : List Int) (w : World) (h : TX P w bt L ng) (hx : L[k]? = some x) (hg : ng ≤ lim) :
    Calls Try.prog 15 #[.pointer (some ⟨bt, 0, none⟩), .int .i64 (k : Nat)] w fun e w' => ∃ a c, e = .returned (.tuple #[.slice a x.length c, .int .i64 0]) ∧ w'.ownsRow w.heap.size 21 1 (.slice a x.length c) x.length (ints x) ∧ Below w.heap.size w w' := by
  obtain ⟨q1, q2⟩ := line_cut hx
  have hcn := h.count
  have hrow := h.row
  have hkl := (List.getElem?_eq_some_iff.1 hx).1
  obtain ⟨tt, F, a, n, c, ps, c0, c2, hlt, hlb, hfl, F1, np, hts⟩ := h.open_
  unfold ifv at c0
  have HLN : Hid (Calls Try.prog 37 #[.pointer (some ⟨bt, 1, none⟩), .int .i64 (k : Nat)] w fun e w' => e = .returned (.tuple #[.int .i64 (sizeN ((lens L).take k) : Nat), .int .i64 (x.length : Nat)]) ∧ Below w.heap.size w w') := by
    have := tline_any F bt a n c ps L.length k w hlb (by omega)
    rw [hfl, List.getD_eq_getElem?_getD, lens_at hx, Option.getD_some] at this
    exact this
  obtain ⟨S, hS⟩ : ∃ S, sizeN ((lens L).take k) = S := ⟨_, rfl⟩
  rw [hS] at q1 q2 HLN
  have hsli : sliM (joinL L) (S : Nat) (x.length : Nat) = (x, 0) := by
    unfold sliM
    rw [hasB_iff.2 ⟨by omega, by omega, by omega⟩, if_pos rfl, Int.toNat_natCast, Int.toNat_natCast, q1]
  have HSL : Hid (∀ W, Below w.heap.size w W → Calls Try.prog 106 #[.pointer (some ⟨tt, 0, none⟩), .int .i64 (S : Nat), .int .i64 (x.length : Nat)] W fun e w' => ∃ a c, e = .returned (.tuple #[.slice a x.length c, .int .i64 0]) ∧ Hid (w'.ownsRow w.heap.size 21 1 (.slice a x.length c) x.length (ints x) ∧ Below w.heap.size w w')) := by
    intro W hW
    have := ts_slice F1 tt (joinL L) [] np ng (S : Nat) (x.length : Nat) W (hts.below hW) (by unfold i64b; omega) (by unfold i64b; omega) hg
    rw [hsli] at this
    refine this.mono ?_
    rintro e w' ⟨a, c, rfl, ho, hb⟩
    exact ⟨a, c, rfl, own_mono ho hW.size, hW.trans (hb.mono hW.size)⟩
  obtain ⟨X, hX⟩ : ∃ X, x.length = X := ⟨_, rfl⟩
  obtain ⟨N, hN⟩ : ∃ N, L.length = N := ⟨_, rfl⟩
  rw [hX] at HLN HSL ⊢
  rw [hN] at c2 hcn hkl
  have t1 : decide ((k : Int) < 0) = false := by simp
  have t1' : ¬ ((k : Int) < 0) := by omega
  have t2 : ¬ ((N : Int) ≤ (k : Int)) := by omega
  clear hlb hfl hts h hx hS hX hN q1 q2 hsli
  go_enter Try.func15, Try.ntmps15
  go_wp2_with fail
  refine HLN.out.mono ?_
  rintro e w1 ⟨rfl, hb1⟩
  have e0 := (hb1.cell (p := ⟨bt, 0, none⟩) hlt).trans c0
  have hlt1 : bt < w1.heap.size := by have := hb1.size; omega
  have HSL2 := Lib.hid (HSL.out w1 hb1)
  clear hb1
  go_wp2_with (go_at_call 106; refine HSL2.out.mono ?_; rintro e w2 ⟨a2, c2', rfl, hfin⟩)
  go_ret2
  exact ⟨a2, c2', rfl, hfin.out.1, hfin.out.2⟩
theorem line_err (P : Nat → Prop) (bt ng : Nat) (k : Int) (L : List (List Int)) (w : World) (h : TX P w bt L ng) (hk : k < 0 ∨ (L.length : Int) ≤ k) (hkb : i64b k) :
    Calls Try.prog 15 #[.pointer (some ⟨bt, 0, none⟩), .int .i64 k] w fun e w' => e = .returned (.tuple #[.slice none 0 0, .int .i64 2]) ∧ w = w' := by
  obtain ⟨tt, F, a, n, c, ps, c0, c2, hlt, hlb, hfl, F1, np, hts⟩ := h.open_
  obtain ⟨N, hN⟩ : ∃ N, L.length = N := ⟨_, rfl⟩
  rw [hN] at c2 hk
  unfold i64b at hkb
  clear hlb hfl hts h hN c0
  rcases hk with hk | hk
  · have t1 : decide (k < 0) = true := by simp; exact hk
    go_enter Try.func15, Try.ntmps15
    go_wp2_with fail
    go_ret2
    exact ⟨rfl, rfl⟩
  · by_cases h0 : k < 0
    · have t1 : decide (k < 0) = true := by simp; exact h0
      go_enter Try.func15, Try.ntmps15
      go_wp2_with fail
      go_ret2
      exact ⟨rfl, rfl⟩
    · have t1 : decide (k < 0) = false := by simp; omega
      go_enter Try.func15, Try.ntmps15
      go_wp2_with fail
      go_ret2
      exact ⟨rfl, rfl⟩

/-- the offsets of two places, or what is wrong -/
def betR (L : List (List Int)) (i c j d : Int) : Int × Int × Int := if hasP L i c && hasP L j d then (if (offN L j.toNat d.toNat : Int) < offN L i.toNat c.toNat then (0, 0, 1) else (offN L i.toNat c.toNat, offN L j.toNat d.toNat - offN L i.toNat c.toNat, 0)) else (0, 0, 2)
theorem off_room {P : Nat → Prop} {w : World} {bt ng : Nat} {L : List (List Int)} (h : TX P w bt L ng) {i c : Int} (hh : hasP L i c = true) : offN L i.toNat c.toNat ≤ (joinL L).length := by
  obtain ⟨k, d, x, rfl, rfl, hx, hd⟩ := hasP_iff.1 hh
  exact off_le hx hd

set_option maxHeartbeats 2000000 in
theorem between_any (P : Nat → Prop) (bt ng : Nat) (L : List (List Int)) (i c j d : Int) (w : World) (h : TX P w bt L ng) (hi : i64b i) (hc : i64b c) (hj : i64b j) (hd : i64b d) :
    Calls Try.prog 50 #[.pointer (some ⟨bt, 0, none⟩), .agg #[.int .i64 i, .int .i64 c], .agg #[.int .i64 j, .int .i64 d]] w fun e w' => e = .returned (.tuple #[.int .i64 (betR L i c j d).1, .int .i64 (betR L i c j d).2.1, .int .i64 (betR L i c j d).2.2]) ∧ Below w.heap.size w w' := by
  have hrow := h.row
  obtain ⟨wb, hwb⟩ : ∃ wb, (w.alloc (.cells #[.int .i64 i, .int .i64 c] 30)).alloc (.cells #[.int .i64 j, .int .i64 d] 30) = wb := ⟨_, rfl⟩
  have hB : Below w.heap.size w wb := by rw [← hwb]; exact ((Below.refl _ _).alloc (Nat.le_refl _) _).alloc (by simp) _
  have hg1 : wb.heap[w.heap.size]? = some (.cells #[.int .i64 i, .int .i64 c] 30 (0, 0)) := by
    rw [← hwb, Below.heap_alloc _ _ _ (by simp), heap_alloc_new]
  have hg2 : wb.heap[w.heap.size + 1]? = some (.cells #[.int .i64 j, .int .i64 d] 30 (0, 0)) := by
    have := heap_alloc_new (w.alloc (.cells #[.int .i64 i, .int .i64 c] 30)) (.cells #[.int .i64 j, .int .i64 d] 30)
    rw [← hwb]
    simpa using this
  have a0 : wb.cell? ⟨w.heap.size, 0, none⟩ = some (.int .i64 i) := cell_row hg1 0
  have a1 : wb.cell? ⟨w.heap.size, 1, none⟩ = some (.int .i64 c) := cell_row hg1 1
  have la := heap_lt hg1
  have lb := heap_lt hg2
  have HB := Lib.hid hB
  have HG2 := Lib.hid hg2
  have HWB := Lib.hid hwb
  have HO1 : Hid (Calls Try.prog 17 #[.pointer (some ⟨bt, 0, none⟩), .agg #[.int .i64 i, .int .i64 c]] wb fun e w' => e = .returned (.tuple #[.int .i64 (offR L i c).1, .int .i64 (offR L i c).2]) ∧ Below wb.heap.size wb w') := offset_any P bt ng L i c wb (h.below hB) hi hc
  have HO2 : Hid (∀ W, Below wb.heap.size wb W → Calls Try.prog 17 #[.pointer (some ⟨bt, 0, none⟩), .agg #[.int .i64 j, .int .i64 d]] W fun e w' => e = .returned (.tuple #[.int .i64 (offR L j d).1, .int .i64 (offR L j d).2]) ∧ Below W.heap.size W w') := fun W hW => offset_any P bt ng L j d W ((h.below hB).below hW) hj hd
  unfold betR
  have r1 : hasP L i c = true → offN L i.toNat c.toNat ≤ 65536 := fun hh => Nat.le_trans (off_room h hh) hrow
  have r2 : hasP L j d = true → offN L j.toNat d.toNat ≤ 65536 := fun hh => Nat.le_trans (off_room h hh) hrow
  unfold offR at HO1 HO2
  obtain ⟨o1, ho1⟩ : ∃ o1, offN L i.toNat c.toNat = o1 := ⟨_, rfl⟩
  obtain ⟨o2, ho2⟩ : ∃ o2, offN L j.toNat d.toNat = o2 := ⟨_, rfl⟩
  rw [ho1] at HO1 r1 ⊢
  rw [ho2] at HO2 r2 ⊢
  clear hwb hB hg1 hg2 h ho1 ho2 hrow
  cases h1 : hasP L i c with
  | false =>
    rw [h1] at HO1
    simp only [Bool.false_eq_true, ↓reduceIte, Bool.false_and] at HO1 ⊢
    clear h1 r1 r2 HO2
    go_enter Try.func50, Try.ntmps50
    go_upto_region 1 with fail
    rw [HWB.out]
    go_wp2_with fail
    refine HO1.out.mono ?_
    rintro e w1 ⟨rfl, hb1⟩
    have HF := Lib.hid (HB.out.trans (hb1.mono HB.out.size))
    clear hb1
    go_wp2_with fail
    go_ret3
    exact ⟨rfl, HF.out⟩
  | true =>
    have r1' := r1 h1
    rw [h1] at HO1
    simp only [↓reduceIte, Bool.true_and] at HO1 ⊢
    cases h2 : hasP L j d with
    | false =>
      rw [h2] at HO2
      simp only [Bool.false_eq_true, ↓reduceIte] at HO2 ⊢
      clear h1 h2 r1 r2
      go_enter Try.func50, Try.ntmps50
      go_upto_region 1 with fail
      rw [HWB.out]
      go_wp2_with fail
      refine HO1.out.mono ?_
      rintro e w1 ⟨rfl, hb1⟩
      have hg2 := (hb1.block _ lb).trans HG2.out
      have b0 : w1.cell? ⟨w.heap.size + 1, 0, none⟩ = some (.int .i64 j) := cell_row hg2 0
      have b1 : w1.cell? ⟨w.heap.size + 1, 1, none⟩ = some (.int .i64 d) := cell_row hg2 1
      have lb1 := heap_lt hg2
      have HB1 := Lib.hid hb1
      clear hb1 hg2
      go_wp2_with fail
      refine (HO2.out _ HB1.out).mono ?_
      rintro e w2 ⟨rfl, hb2⟩
      have HF : Hid (Below w.heap.size w w2) := (HB.out.trans (HB1.out.mono HB.out.size)).trans (hb2.mono (Nat.le_trans HB.out.size HB1.out.size))
      clear hb2
      go_wp2_with fail
      go_ret3
      exact ⟨rfl, HF.out⟩
    | true =>
      have r2' := r2 h2
      rw [h2] at HO2
      simp only [↓reduceIte] at HO2 ⊢
      clear h1 h2 r1 r2
      by_cases hlt : (o2 : Int) < (o1 : Int)
      · rw [if_pos hlt]
        go_enter Try.func50, Try.ntmps50
        go_upto_region 1 with fail
        rw [HWB.out]
        go_wp2_with fail
        refine HO1.out.mono ?_
        rintro e w1 ⟨rfl, hb1⟩
        have hg2 := (hb1.block _ lb).trans HG2.out
        have b0 : w1.cell? ⟨w.heap.size + 1, 0, none⟩ = some (.int .i64 j) := cell_row hg2 0
        have b1 : w1.cell? ⟨w.heap.size + 1, 1, none⟩ = some (.int .i64 d) := cell_row hg2 1
        have lb1 := heap_lt hg2
        have HB1 := Lib.hid hb1
        clear hb1 hg2
        go_wp2_with fail
        refine (HO2.out _ HB1.out).mono ?_
        rintro e w2 ⟨rfl, hb2⟩
        have HF : Hid (Below w.heap.size w w2) := (HB.out.trans (HB1.out.mono HB.out.size)).trans (hb2.mono (Nat.le_trans HB.out.size HB1.out.size))
        clear hb2
        go_wp2_with fail
        go_ret3
        exact ⟨rfl, HF.out⟩
      · rw [if_neg hlt]
        go_enter Try.func50, Try.ntmps50
        go_upto_region 1 with fail
        rw [HWB.out]
        go_wp2_with fail
        refine HO1.out.mono ?_
        rintro e w1 ⟨rfl, hb1⟩
        have hg2 := (hb1.block _ lb).trans HG2.out
        have b0 : w1.cell? ⟨w.heap.size + 1, 0, none⟩ = some (.int .i64 j) := cell_row hg2 0
        have b1 : w1.cell? ⟨w.heap.size + 1, 1, none⟩ = some (.int .i64 d) := cell_row hg2 1
        have lb1 := heap_lt hg2
        have HB1 := Lib.hid hb1
        clear hb1 hg2
        go_wp2_with fail
        refine (HO2.out _ HB1.out).mono ?_
        rintro e w2 ⟨rfl, hb2⟩
        have HF : Hid (Below w.heap.size w w2) := (HB.out.trans (HB1.out.mono HB.out.size)).trans (hb2.mono (Nat.le_trans HB.out.size HB1.out.size))
        clear hb2
        go_wp2_with fail
        go_ret3
        exact ⟨rfl, HF.out⟩
end Go.Proofs.Ytndlebopfojjeaa.U
