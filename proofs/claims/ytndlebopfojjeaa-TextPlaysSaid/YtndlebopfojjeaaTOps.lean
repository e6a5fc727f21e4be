/-
  The contracts of Insert, Delete, Slice.
-/
import Derived.Test.YtndlebopfojjeaaTSwap
namespace Go.Proofs.Ytndlebopfojjeaa.U
open Go.RowKit
set_option linter.unusedVariables false
set_option linter.unusedSimpArgs false
set_option maxRecDepth 100000

/-- what a method leaves that changes a text -/
def AfT (P : Nat → Prop) (w : World) (bt : Nat) (L : List (List Int)) (ng : Nat) (w' : World) : Prop := TX (fun k => P k ∨ w.heap.size ≤ k) w' bt L ng ∧ Fr P w w'
theorem AfT.same {P : Nat → Prop} {w w' : World} {bt ng ng' : Nat} {L : List (List Int)} (h : TX P w bt L ng) (hb : Below w.heap.size w w') (hn : ng ≤ ng') : AfT P w bt L ng' w' :=
  ⟨(h.below hb).mono (fun k hk => .inl hk) hn, Fr.of_below _ hb⟩
theorem TX.bound {P : Nat → Prop} {w : World} {bt ng : Nat} {L : List (List Int)} (h : TX P w bt L ng) : TX (fun k => P k ∧ k < w.heap.size) w bt L ng :=
  (h.shrink (N := fun k => w.heap.size ≤ k) (fun k hk => hk)).mono (fun k hk => ⟨hk.1, by omega⟩) (Nat.le_refl _)
theorem swap_split {L : List (List Int)} {i c j d : Nat} {x y : List Int} {M : List (List Int)} (hp : plainL L) (hM : M ≠ []) (hMp : plainL M) (hx : L[i]? = some x) (hc : c ≤ x.length) (hy : L[j]? = some y) (hd : d ≤ y.length) :
    swapL L i (x.take c) j (y.drop d) M = splitL ((joinL L).take (offN L i c) ++ (joinL M ++ (joinL L).drop (offN L j d))) := by
  unfold offN
  rw [← swap_join hx hc hy hd hM]
  exact (split_join (swap_plain hp hMp (List.mem_of_getElem? hx) (List.mem_of_getElem? hy)) (swap_ne hM)).symm

def insT (L : List (List Int)) (i c : Int) (l : List Int) : List (List Int) × Int :=
  if hasP L i c then (if 65536 - ((joinL L).length : Int) < l.length then (L, 3) else (splitL ((joinL L).take (offN L i.toNat c.toNat) ++ (l ++ (joinL L).drop (offN L i.toNat c.toNat))), 0)) else (L, 2)

set_option maxHeartbeats 2000000 in
theorem insertT_any (P F0 : Nat → Prop) (bt ng : Nat) (L : List (List Int)) (i c : Int) (la : Option Addr) (ln lc : Nat) (l : List Int) (w : World) (h : TX P w bt L ng) (hi : i64b i) (hc : i64b c) (hr : Rd .i32 w la ln lc l) (hin : InF F0 la ln) (hF0 : ∀ k, F0 k → k < w.heap.size ∧ ¬ P k) (hng : ng + 131072 ≤ lim) :
    Calls Try.prog 26 #[.pointer (some ⟨bt, 0, none⟩), .agg #[.int .i64 i, .int .i64 c], .slice la ln lc] w fun e w' => e = .returned (.int .i64 (insT L i c l).2) ∧ AfT P w bt (insT L i c l).1 (ng + 65536) w' := by
  have hrow := h.row
  have hll := hr.1
  have hlsm := hr.small
  obtain ⟨wb, hwb⟩ : ∃ wb, w.alloc (.cells #[.int .i64 i, .int .i64 c] 30) = wb := ⟨_, rfl⟩
  have hB : Below w.heap.size w wb := by rw [← hwb]; exact (Below.refl _ _).alloc (Nat.le_refl _) _
  have hg1 : wb.heap[w.heap.size]? = some (.cells #[.int .i64 i, .int .i64 c] 30 (0, 0)) := by rw [← hwb]; exact heap_alloc_new w _
  have a0 : wb.cell? ⟨w.heap.size, 0, none⟩ = some (.int .i64 i) := cell_row hg1 0
  have a1 : wb.cell? ⟨w.heap.size, 1, none⟩ = some (.int .i64 c) := cell_row hg1 1
  have la0 := heap_lt hg1
  have HO := Lib.hid (offset_any P bt ng L i c wb (h.below hB) hi hc)
  unfold offR at HO
  unfold insT
  have HWB := Lib.hid hwb
  have HB := Lib.hid hB
  have HG1 := Lib.hid hg1
  have H := Lib.hid h
  cases hh : hasP L i c with
  | false =>
    rw [hh] at HO
    simp only [Bool.false_eq_true, ↓reduceIte] at HO ⊢
    have HF : Hid (∀ w', Below w.heap.size w w' → AfT P w bt L (ng + 65536) w') := fun w' hb => AfT.same h hb (by omega)
    clear hwb hB hg1 h hh hr hin hll
    go_enter Try.func26, Try.ntmps26
    go_upto_region 1 with fail
    rw [HWB.out]
    go_wp2_with fail
    refine HO.out.mono ?_
    rintro e w1 ⟨rfl, hb1⟩
    have HF2 := Lib.hid (HF.out w1 (HB.out.trans (hb1.mono HB.out.size)))
    clear hb1
    go_wp2_with fail
    go_ret
    exact ⟨rfl, HF2.out⟩
  | true =>
    rw [hh] at HO
    simp only [↓reduceIte] at HO ⊢
    obtain ⟨tt, F, ba, n, bc, ps, c0, c2, hlt, hlb, hfl, F1, np, hts⟩ := h.open_
    unfold ifv at c0
    have HLEN : Hid (∀ W, Below w.heap.size w W → Calls Try.prog 105 #[.pointer (some ⟨tt, 0, none⟩)] W fun e w' => e = .returned (.int .i64 ((joinL L).length : Nat)) ∧ W = w') := fun W hW => ts_len _ _ _ _ _ _ W (hts.below hW)
    obtain ⟨N, hN⟩ : ∃ N, (joinL L).length = N := ⟨_, rfl⟩
    by_cases hfull : 65536 - ((joinL L).length : Int) < l.length
    · rw [if_pos hfull]
      rw [hN] at HLEN hrow hfull
      rw [hll] at hfull
      have HF : Hid (∀ w', Below w.heap.size w w' → AfT P w bt L (ng + 65536) w') := fun w' hb => AfT.same h hb (by omega)
      clear hwb hB hg1 h hh hr hin hll hlb hfl hts hN c2
      go_enter Try.func26, Try.ntmps26
      go_upto_region 1 with fail
      rw [HWB.out]
      go_wp2_with fail
      refine HO.out.mono ?_
      rintro e w1 ⟨rfl, hb1⟩
      have hb01 := HB.out.trans (hb1.mono HB.out.size)
      have d0 := (hb01.cell (p := ⟨bt, 0, none⟩) hlt).trans c0
      have hl1 : bt < w1.heap.size := by have := hb01.size; omega
      have HF2 := Lib.hid (HF.out w1 hb01)
      have HL2 := Lib.hid (HLEN.out w1 hb01)
      clear hb1 hb01
      go_wp2_with (go_at_call 105; refine HL2.out.mono ?_; rintro e w' ⟨rfl, rfl⟩)
      go_ret
      exact ⟨rfl, HF2.out⟩
    · rw [if_neg hfull]
      obtain ⟨k, m, x, rfl, rfl, hx, hm⟩ := hasP_iff.1 hh
      simp only [Int.toNat_natCast] at HO ⊢
      rw [hN] at HLEN hrow hfull
      rw [hll] at hfull
      have hF0' : ∀ k, F0 k → k < w.heap.size := fun k hk => (hF0 k hk).1
      have HPS : Hid (∀ W, Below w.heap.size w W → Calls Try.prog 47 #[.slice la ln lc] W fun e w2 => ∃ pa pn pc, e = .returned (.slice pa pn pc) ∧ Below W.heap.size W w2 ∧ Hid (Below w.heap.size w w2 ∧ RdL (fun k => F0 k ∨ (w.heap.size ≤ k ∧ k < w2.heap.size)) w2 pa pn pc (splitL l))) := by
        intro W hW
        refine (parted_any F0 la ln lc l W (hr.below hW) hin (fun k hk => by have := hF0' k hk; have := hW.size; omega) (by omega)).mono ?_
        rintro e w2 ⟨pa, pc, rfl, ho, hb⟩
        refine ⟨pa, _, pc, rfl, hb, hW.trans (hb.mono hW.size), ?_⟩
        obtain ⟨vs, o1, o2⟩ := ho
        exact ⟨vs, Rc.own o1, InF.own o1 (fun k e => .inr ⟨by have := (o1.lt k e).1; have := hW.size; omega, (o1.lt k e).2⟩), o2.mono (fun k hk => .inl hk)⟩
      have HSW : Hid (∀ W pa pn pc, Hid (Below w.heap.size w W ∧ RdL (fun k => F0 k ∨ (w.heap.size ≤ k ∧ k < W.heap.size)) W pa pn pc (splitL l)) → Calls Try.prog 49 #[.pointer (some ⟨bt, 0, none⟩), .agg #[.int .i64 (k : Nat), .int .i64 (m : Nat)], .agg #[.int .i64 (k : Nat), .int .i64 (m : Nat)], .slice pa pn pc] W fun e w' => e = .returned (.tuple #[]) ∧
          Hid (AfT P w bt (splitL ((joinL L).take (offN L k m) ++ (l ++ (joinL L).drop (offN L k m)))) (ng + 65536) w')) := by
        intro W pa pn pc hh
        obtain ⟨hb, hrd⟩ := hh.out
        have hsW := hb.size
        refine (swap_any (fun k => P k ∧ k < w.heap.size) (fun k => F0 k ∨ (w.heap.size ≤ k ∧ k < W.heap.size)) bt ng L k m k m x x (splitL l) pa pn pc W (H.out.bound.below hb) (fun k hk => by omega) hx hm hx hm (Nat.le_refl _) hrd ?_ (splitL_ne l) (split_plain l) ?_ hng).mono ?_
        · intro k hk
          rcases hk with h | h
          · exact ⟨by have := (hF0 k h).1; omega, fun hp => (hF0 k h).2 hp.1⟩
          · exact ⟨h.2, fun hp => by omega⟩
        · rw [joinL_split, Nat.sub_self, Nat.sub_zero, hN]; omega
        · rintro e w' ⟨rfl, htx, hf⟩
          refine ⟨rfl, ?_, ?_⟩
          · rw [swap_split H.out.plain (splitL_ne l) (split_plain l) hx hm hx hm, joinL_split] at htx
            exact htx.mono (fun k hk => by
              rcases hk with h | h
              · exact .inl h.1
              · exact .inr (by omega)) (Nat.le_refl _)
          · exact (Fr.of_below P hb).trans hf (fun k _ hk => hk.1)
      have hfull' : ¬ ((65536 : Int) - (N : Int) < (ln : Int)) := by omega
      clear hwb hB hg1 h hh hr hin hll hlb hfl hts hN c2 hx hm hF0 hfull
      go_enter Try.func26, Try.ntmps26
      go_upto_region 1 with fail
      rw [HWB.out]
      go_wp2_with fail
      refine HO.out.mono ?_
      rintro e w1 ⟨rfl, hb1⟩
      have hb01 := HB.out.trans (hb1.mono HB.out.size)
      have d0 := (hb01.cell (p := ⟨bt, 0, none⟩) hlt).trans c0
      have hl1 : bt < w1.heap.size := by have := hb01.size; omega
      have HL2 := Lib.hid (HLEN.out w1 hb01)
      have b0 : w1.cell? ⟨w.heap.size, 0, none⟩ = some (.int .i64 (k : Nat)) := (hb1.cell (p := ⟨w.heap.size, 0, none⟩) la0).trans a0
      have b1 : w1.cell? ⟨w.heap.size, 1, none⟩ = some (.int .i64 (m : Nat)) := (hb1.cell (p := ⟨w.heap.size, 1, none⟩) la0).trans a1
      have lb0 : w.heap.size < w1.heap.size := by have := hb1.size; omega
      have HB01 := Lib.hid hb01
      have HPS2 : Hid (∀ W, Below w1.heap.size w1 W → Calls Try.prog 47 #[.slice la ln lc] W fun e w2 => ∃ pa pn pc, e = .returned (.slice pa pn pc) ∧ w2.cell? ⟨w.heap.size, 0, none⟩ = some (.int .i64 (k : Nat)) ∧ w2.cell? ⟨w.heap.size, 1, none⟩ = some (.int .i64 (m : Nat)) ∧ w.heap.size < w2.heap.size ∧ Hid (Below w.heap.size w w2 ∧ RdL (fun k => F0 k ∨ (w.heap.size ≤ k ∧ k < w2.heap.size)) w2 pa pn pc (splitL l))) := by
        intro W hW
        refine (HPS.out W (HB01.out.trans (hW.mono HB01.out.size))).mono ?_
        rintro e w2 ⟨pa, pn, pc, rfl, hb2, hh⟩
        have hb12 := hW.trans (hb2.mono hW.size)
        exact ⟨pa, pn, pc, rfl, (hb12.cell (p := ⟨w.heap.size, 0, none⟩) lb0).trans b0, (hb12.cell (p := ⟨w.heap.size, 1, none⟩) lb0).trans b1, by have := hb12.size; omega, hh⟩
      clear hb1 hb01 a0 a1 la0
      go_wp2_with (go_at_call 105; refine HL2.out.mono ?_; rintro e w' ⟨rfl, rfl⟩)
      go_cut [27] (fun v27 wx => Hid (AfT P w bt (splitL ((joinL L).take (offN L k m) ++ (l ++ (joinL L).drop (offN L k m)))) (ng + 65536) wx))
      case first =>
        go_region_with (first
          | (go_at_call 47; refine (HPS2.out _ (by first | exact Below.refl _ _ | exact (Below.refl _ _).drew)).mono ?_; rintro e w2 ⟨pa, pn, pc, rfl, e0, e1, l2, hps⟩)
          | (go_at_call 49; refine (HSW.out _ pa pn pc hps).mono ?_; rintro e w3 ⟨rfl, hfin⟩))
        all_goals
          go_wp2_with fail
          go_meet
          exact hfin
      case rest =>
        go_wp2_with fail
        go_ret
        exact ⟨rfl, hcut.out⟩

def delT (L : List (List Int)) (i c j d : Int) : List (List Int) × Int :=
  if (betR L i c j d).2.2 = 0 then (splitL ((joinL L).take (offN L i.toNat c.toNat) ++ (joinL L).drop (offN L j.toNat d.toNat)), 0) else (L, (betR L i c j d).2.2)
theorem betR_cases (L : List (List Int)) (i c j d : Int) : (betR L i c j d = (0, 0, 1) ∨ betR L i c j d = (0, 0, 2)) ∨ (∃ (k m k' m' : Nat) (x y : List Int), i = k ∧ c = m ∧ j = k' ∧ d = m' ∧ L[k]? = some x ∧ m ≤ x.length ∧ L[k']? = some y ∧ m' ≤ y.length ∧ offN L k m ≤ offN L k' m' ∧ betR L i c j d = (((offN L k m : Nat) : Int), ((offN L k' m' - offN L k m : Nat) : Int), (0 : Int))) := by
  unfold betR
  cases h1 : hasP L i c with
  | false => exact .inl (.inr rfl)
  | true =>
    cases h2 : hasP L j d with
    | false => exact .inl (.inr rfl)
    | true =>
      obtain ⟨k, m, x, rfl, rfl, hx, hm⟩ := hasP_iff.1 h1
      obtain ⟨k', m', y, rfl, rfl, hy, hm'⟩ := hasP_iff.1 h2
      simp only [Bool.and_self, ↓reduceIte, Int.toNat_natCast]
      by_cases hlt : (offN L k' m' : Int) < (offN L k m : Int)
      · rw [if_pos hlt]; exact .inl (.inl rfl)
      · rw [if_neg hlt]
        refine .inr ⟨k, m, k', m', x, y, rfl, rfl, rfl, rfl, hx, hm, hy, hm', by omega, ?_⟩
        simp only [Prod.mk.injEq, true_and, and_true]
        omega
theorem one_rdl (w : World) (W : World) (hb : Below (w.alloc (.cells #[.slice none 0 0] 31)).heap.size (w.alloc (.cells #[.slice none 0 0] 31)) W) : RdL (fun k => k = w.heap.size) W (some ⟨w.heap.size, 0, none⟩) 1 1 [[]] := by
  have hg := heap_alloc_new w (.cells #[.slice none 0 0] 31)
  have h0 : RdL (fun k => k = w.heap.size) (w.alloc (.cells #[.slice none 0 0] 31)) (some ⟨w.heap.size, 0, none⟩) 1 1 [[]] := by
    refine ⟨[.slice none 0 0], ⟨rfl, Nat.le_refl _, by unfold maxLen; omega, (fun e => by cases e), fun _ => ⟨_, 0, rfl, heap_lt hg, fun j u hu => ?_⟩⟩, fun _ ad e => by cases e; rfl, RowsAt.one (Rd.none0 _ _) (InF.zero _ _)⟩
    rw [cell_row hg, Nat.zero_add]
    simpa using hu
  exact h0.below hb

set_option maxHeartbeats 2000000 in
theorem deleteT_any (P : Nat → Prop) (bt ng : Nat) (L : List (List Int)) (i c j d : Int) (w : World) (h : TX P w bt L ng) (hi : i64b i) (hc : i64b c) (hj : i64b j) (hd : i64b d) (hng : ng + 131072 ≤ lim) :
    Calls Try.prog 28 #[.pointer (some ⟨bt, 0, none⟩), .agg #[.int .i64 i, .int .i64 c], .agg #[.int .i64 j, .int .i64 d]] w fun e w' => e = .returned (.int .i64 (delT L i c j d).2) ∧ AfT P w bt (delT L i c j d).1 (ng + 65536) w' := by
  have hrow := h.row
  obtain ⟨wb, hwb⟩ : ∃ wb, (w.alloc (.cells #[.int .i64 i, .int .i64 c] 30)).alloc (.cells #[.int .i64 j, .int .i64 d] 30) = wb := ⟨_, rfl⟩
  have hB : Below w.heap.size w wb := by rw [← hwb]; exact ((Below.refl _ _).alloc (Nat.le_refl _) _).alloc (by simp) _
  have hg1 : wb.heap[w.heap.size]? = some (.cells #[.int .i64 i, .int .i64 c] 30 (0, 0)) := by
    rw [← hwb, Below.heap_alloc _ _ _ (by simp), heap_alloc_new]
  have hg2 : wb.heap[w.heap.size + 1]? = some (.cells #[.int .i64 j, .int .i64 d] 30 (0, 0)) := by
    have := heap_alloc_new (w.alloc (.cells #[.int .i64 i, .int .i64 c] 30)) (.cells #[.int .i64 j, .int .i64 d] 30)
    rw [← hwb]
    simpa using this
  have HA : Hid (∀ W, Below wb.heap.size wb W → W.cell? ⟨w.heap.size, 0, none⟩ = some (.int .i64 i) ∧ W.cell? ⟨w.heap.size, 1, none⟩ = some (.int .i64 c) ∧ W.cell? ⟨w.heap.size + 1, 0, none⟩ = some (.int .i64 j) ∧ W.cell? ⟨w.heap.size + 1, 1, none⟩ = some (.int .i64 d) ∧ w.heap.size < W.heap.size ∧ w.heap.size + 1 < W.heap.size) := by
    intro W hW
    have q1 := (hW.block _ (heap_lt hg1)).trans hg1
    have q2 := (hW.block _ (heap_lt hg2)).trans hg2
    exact ⟨cell_row q1 0, cell_row q1 1, cell_row q2 0, cell_row q2 1, heap_lt q1, heap_lt q2⟩
  have HBT := Lib.hid (between_any P bt ng L i c j d wb (h.below hB) hi hc hj hd)
  unfold delT
  have HWB := Lib.hid hwb
  have HB := Lib.hid hB
  have H := Lib.hid h
  have HERR : ∀ er : Int, er ≠ 0 → (Calls Try.prog 50 #[.pointer (some ⟨bt, 0, none⟩), .agg #[.int .i64 i, .int .i64 c], .agg #[.int .i64 j, .int .i64 d]] wb fun e w' => e = .returned (.tuple #[.int .i64 0, .int .i64 0, .int .i64 er]) ∧ Below wb.heap.size wb w') →
      Calls Try.prog 28 #[.pointer (some ⟨bt, 0, none⟩), .agg #[.int .i64 i, .int .i64 c], .agg #[.int .i64 j, .int .i64 d]] w fun e w' => e = .returned (.int .i64 er) ∧ AfT P w bt L (ng + 65536) w' := by
    intro er hne hcall
    have HC := Lib.hid hcall
    have hner : (er != 0) = true := by simpa using hne
    have HF : Hid (∀ w', Below w.heap.size w w' → AfT P w bt L (ng + 65536) w') := fun w' hb => AfT.same h hb (by omega)
    obtain ⟨a0, a1, a2, a3, l0, l1⟩ := HA.out wb (Below.refl _ _)
    clear hwb hB hg1 hg2 h hcall hne HBT
    go_enter Try.func28, Try.ntmps28
    go_upto_region 1 with fail
    rw [HWB.out]
    go_wp2_with fail
    refine HC.out.mono ?_
    rintro e w1 ⟨rfl, hb1⟩
    have HF2 := Lib.hid (HF.out w1 (HB.out.trans (hb1.mono HB.out.size)))
    clear hb1
    go_wp2_with fail
    go_ret
    exact ⟨rfl, HF2.out⟩
  rcases betR_cases L i c j d with (hb | hb) | ⟨k, m, k', m', x, y, rfl, rfl, rfl, rfl, hx, hm, hy, hm', hle, hb⟩
  · rw [hb] at HBT ⊢
    exact HERR 1 (by decide) HBT.out
  · rw [hb] at HBT ⊢
    exact HERR 2 (by decide) HBT.out
  · rw [hb] at HBT ⊢
    simp only [↓reduceIte, Int.toNat_natCast] at HBT ⊢
    clear HERR
    have HSW : Hid (∀ W, Below wb.heap.size wb W → Calls Try.prog 49 #[.pointer (some ⟨bt, 0, none⟩), .agg #[.int .i64 (k : Nat), .int .i64 (m : Nat)], .agg #[.int .i64 (k' : Nat), .int .i64 (m' : Nat)], .slice (some ⟨W.heap.size, 0, none⟩) 1 1] (W.alloc (.cells #[.slice none 0 0] 31)) fun e w' => e = .returned (.tuple #[]) ∧
        Hid (AfT P w bt (splitL ((joinL L).take (offN L k m) ++ (joinL L).drop (offN L k' m'))) (ng + 65536) w')) := by
      intro W hW
      have hbW := hB.trans (hW.mono hB.size)
      have hsW := hbW.size
      have hba : Below w.heap.size w (W.alloc (.cells #[.slice none 0 0] 31)) := hbW.alloc hsW _
      have hoff := off_le hy hm'
      refine (swap_any (fun k => P k ∧ k < w.heap.size) (fun k => k = W.heap.size) bt ng L k m k' m' x y [[]] (some ⟨W.heap.size, 0, none⟩) 1 1 _ (h.bound.below hba) (fun k hk => by simp; omega) hx hm hy hm' hle (one_rdl W _ (Below.refl _ _)) (fun k hk => ⟨by simp; omega, fun hp => by omega⟩) (by simp) (by intro z hz; simp at hz; subst hz; simp) ?_ hng).mono ?_
      · rw [joinL_one]; simp; omega
      · rintro e w' ⟨rfl, htx, hf⟩
        refine ⟨rfl, ?_, ?_⟩
        · rw [swap_split h.plain (by simp) (by intro z hz; simp at hz; subst hz; simp) hx hm hy hm', joinL_one, List.nil_append] at htx
          exact htx.mono (fun k hk => by
            rcases hk with h | h
            · exact .inl h.1
            · exact .inr (by simp at h; omega)) (Nat.le_refl _)
        · exact (Fr.of_below P hba).trans hf (fun k _ hk => hk.1)
    obtain ⟨a0, a1, a2, a3, l0, l1⟩ := HA.out wb (Below.refl _ _)
    clear hwb hB hg1 hg2 h hx hm hy hm' hle
    go_enter Try.func28, Try.ntmps28
    go_upto_region 1 with fail
    rw [HWB.out]
    go_wp2_with fail
    refine HBT.out.mono ?_
    rintro e w1 ⟨rfl, hb1⟩
    obtain ⟨b0, b1, b2, b3, l2, l3⟩ := HA.out w1 hb1
    have HSW2 := Lib.hid (HSW.out w1 hb1)
    clear hb1 a0 a1 a2 a3 l0 l1
    go_wp2_with (go_at_call 49; refine HSW2.out.mono ?_; rintro e w3 ⟨rfl, hfin⟩)
    go_ret
    exact ⟨rfl, hfin.out⟩

def sliT (L : List (List Int)) (i c j d : Int) : List Int × Int :=
  if (betR L i c j d).2.2 = 0 then (((joinL L).drop (offN L i.toNat c.toNat)).take (offN L j.toNat d.toNat - offN L i.toNat c.toNat), 0) else ([], (betR L i c j d).2.2)
set_option maxHeartbeats 2000000 in
theorem sliceT_any (P : Nat → Prop) (bt ng : Nat) (L : List (List Int)) (i c j d : Int) (w : World) (h : TX P w bt L ng) (hi : i64b i) (hc : i64b c) (hj : i64b j) (hd : i64b d) (hng : ng ≤ lim) :
    Calls Try.prog 27 #[.pointer (some ⟨bt, 0, none⟩), .agg #[.int .i64 i, .int .i64 c], .agg #[.int .i64 j, .int .i64 d]] w fun e w' => ∃ a' c', e = .returned (.tuple #[.slice a' (sliT L i c j d).1.length c', .int .i64 (sliT L i c j d).2]) ∧ w'.ownsRow w.heap.size 21 1 (.slice a' (sliT L i c j d).1.length c') (sliT L i c j d).1.length (ints (sliT L i c j d).1) ∧ Below w.heap.size w w' := by
  have hrow := h.row
  obtain ⟨wb, hwb⟩ : ∃ wb, (w.alloc (.cells #[.int .i64 i, .int .i64 c] 30)).alloc (.cells #[.int .i64 j, .int .i64 d] 30) = wb := ⟨_, rfl⟩
  have hB : Below w.heap.size w wb := by rw [← hwb]; exact ((Below.refl _ _).alloc (Nat.le_refl _) _).alloc (by simp) _
  have hg1 : wb.heap[w.heap.size]? = some (.cells #[.int .i64 i, .int .i64 c] 30 (0, 0)) := by
    rw [← hwb, Below.heap_alloc _ _ _ (by simp), heap_alloc_new]
  have hg2 : wb.heap[w.heap.size + 1]? = some (.cells #[.int .i64 j, .int .i64 d] 30 (0, 0)) := by
    have := heap_alloc_new (w.alloc (.cells #[.int .i64 i, .int .i64 c] 30)) (.cells #[.int .i64 j, .int .i64 d] 30)
    rw [← hwb]
    simpa using this
  have a0 : wb.cell? ⟨w.heap.size, 0, none⟩ = some (.int .i64 i) := cell_row hg1 0
  have a1 : wb.cell? ⟨w.heap.size, 1, none⟩ = some (.int .i64 c) := cell_row hg1 1
  have a2 : wb.cell? ⟨w.heap.size + 1, 0, none⟩ = some (.int .i64 j) := cell_row hg2 0
  have a3 : wb.cell? ⟨w.heap.size + 1, 1, none⟩ = some (.int .i64 d) := cell_row hg2 1
  have l0 := heap_lt hg1
  have l1 := heap_lt hg2
  have HBT := Lib.hid (between_any P bt ng L i c j d wb (h.below hB) hi hc hj hd)
  unfold sliT
  have HWB := Lib.hid hwb
  have HB := Lib.hid hB
  have HERR : ∀ er : Int, er ≠ 0 → (Calls Try.prog 50 #[.pointer (some ⟨bt, 0, none⟩), .agg #[.int .i64 i, .int .i64 c], .agg #[.int .i64 j, .int .i64 d]] wb fun e w' => e = .returned (.tuple #[.int .i64 0, .int .i64 0, .int .i64 er]) ∧ Below wb.heap.size wb w') →
      Calls Try.prog 27 #[.pointer (some ⟨bt, 0, none⟩), .agg #[.int .i64 i, .int .i64 c], .agg #[.int .i64 j, .int .i64 d]] w fun e w' => e = .returned (.tuple #[.slice none 0 0, .int .i64 er]) ∧ Below w.heap.size w w' := by
    intro er hne hcall
    have HC := Lib.hid hcall
    have hner : (er != 0) = true := by simpa using hne
    clear hwb hB hg1 hg2 h hcall hne HBT
    go_enter Try.func27, Try.ntmps27
    go_upto_region 1 with fail
    rw [HWB.out]
    go_wp2_with fail
    refine HC.out.mono ?_
    rintro e w1 ⟨rfl, hb1⟩
    have HF2 := Lib.hid (HB.out.trans (hb1.mono HB.out.size))
    clear hb1
    go_wp2_with fail
    go_ret2
    exact ⟨rfl, HF2.out⟩
  rcases betR_cases L i c j d with (hb | hb) | ⟨k, m, k', m', x, y, rfl, rfl, rfl, rfl, hx, hm, hy, hm', hle, hb⟩
  · rw [hb] at HBT ⊢
    refine (HERR 1 (by decide) HBT.out).mono ?_
    rintro e w' ⟨rfl, hbb⟩
    exact ⟨none, 0, rfl, World.ownsRow_nil _ _ _ _, hbb⟩
  · rw [hb] at HBT ⊢
    refine (HERR 2 (by decide) HBT.out).mono ?_
    rintro e w' ⟨rfl, hbb⟩
    exact ⟨none, 0, rfl, World.ownsRow_nil _ _ _ _, hbb⟩
  · rw [hb] at HBT ⊢
    simp only [↓reduceIte, Int.toNat_natCast] at HBT ⊢
    clear HERR
    obtain ⟨tt, F, ba, n, bc, ps, c0, c2, hlt, hlb, hfl, F1, np, hts⟩ := h.open_
    unfold ifv at c0
    have hoff := off_le hy hm'
    obtain ⟨a, ha⟩ : ∃ a, offN L k m = a := ⟨_, rfl⟩
    have hoff2 : offN L k' m' ≤ (joinL L).length := hoff
    rw [ha] at HBT hle ⊢
    obtain ⟨q, hq⟩ : ∃ q, offN L k' m' - a = q := ⟨_, rfl⟩
    rw [hq] at HBT ⊢
    have hql : (((joinL L).drop a).take q).length = q := by rw [List.length_take, List.length_drop]; omega
    have hsli : sliM (joinL L) (a : Nat) (q : Nat) = (((joinL L).drop a).take q, 0) := by
      unfold sliM
      rw [hasB_iff.2 ⟨by omega, by omega, by omega⟩, if_pos rfl, Int.toNat_natCast, Int.toNat_natCast]
    have HSL : Hid (∀ W, Below w.heap.size w W → Calls Try.prog 106 #[.pointer (some ⟨tt, 0, none⟩), .int .i64 (a : Nat), .int .i64 (q : Nat)] W fun e w' => ∃ a' c', e = .returned (.tuple #[.slice a' q c', .int .i64 0]) ∧ Hid (w'.ownsRow w.heap.size 21 1 (.slice a' q c') q (ints (((joinL L).drop a).take q)) ∧ Below w.heap.size w w')) := by
      intro W hW
      have := ts_slice F1 tt (joinL L) [] np ng (a : Nat) (q : Nat) W (hts.below hW) (by unfold i64b; omega) (by unfold i64b; omega) hng
      rw [hsli] at this
      simp only [hql] at this
      refine this.mono ?_
      rintro e w' ⟨a', c', rfl, ho, hbb⟩
      exact ⟨a', c', rfl, own_mono ho hW.size, hW.trans (hbb.mono hW.size)⟩
    rw [hql]
    clear hwb hB hg1 hg2 h hx hm hy hm' hle hlb hfl hts hsli hql ha hq hoff hoff2 c2
    go_enter Try.func27, Try.ntmps27
    go_upto_region 1 with fail
    rw [HWB.out]
    go_wp2_with fail
    refine HBT.out.mono ?_
    rintro e w1 ⟨rfl, hb1⟩
    have hb01 := HB.out.trans (hb1.mono HB.out.size)
    have d0 := (hb01.cell (p := ⟨bt, 0, none⟩) hlt).trans c0
    have hl1 : bt < w1.heap.size := by have := hb01.size; omega
    have HSL2 := Lib.hid (HSL.out w1 hb01)
    clear hb1 hb01 a0 a1 a2 a3 l0 l1
    go_wp2_with (go_at_call 106; refine HSL2.out.mono ?_; rintro e w3 ⟨a3, c3, rfl, hfin⟩)
    go_ret2
    exact ⟨a3, c3, rfl, hfin.out.1, hfin.out.2⟩
end Go.Proofs.Ytndlebopfojjeaa.U
