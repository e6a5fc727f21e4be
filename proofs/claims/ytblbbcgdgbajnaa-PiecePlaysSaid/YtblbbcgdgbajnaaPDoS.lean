/-
  A deed with both tables, their rows the same: a slice, a save.
-/
import Derived.Test.YtblbbcgdgbajnaaPRefS
import Derived.Test.YtblbbcgdgbajnaaPDoI
namespace Go.Proofs.Ytblbbcgdgbajnaa.U
open Go.RowKit
set_option linter.unusedVariables false
set_option linter.unusedSimpArgs false

set_option maxRecDepth 100000 in
set_option maxHeartbeats 2000000 in
theorem do_save (B : Nat) (Q : Nat → Prop) (w : World) (bt bx : Nat) (L : List Int) (S : List (List Int)) (ng : Nat) (hB : B ≤ w.heap.size) (hQ : ∀ k, Q k → k < w.heap.size) (h : Both B Q w bt bx L S L S ng)
    (p n : Int) (al : Option Addr) (ll cl : Nat) (hs : S.length ≤ 1000000) :
    Calls Try.prog 11 #[.pointer (some ⟨bt, 0, none⟩), .pointer (some ⟨bx, 0, none⟩), .agg #[.int .i64 3, .int .i64 p, .int .i64 n, .slice al ll cl]] w fun e w' => e = .returned (.bool true) ∧ Both B Q w' bt bx L (S ++ [L]) L (S ++ [L]) ng ∧ Fr (fun k => B ≤ k ∧ ¬ Q k) w w' := by
  obtain ⟨wb, hwb⟩ : ∃ wb, w.alloc (.cells #[.int .i64 3, .int .i64 p, .int .i64 n, .slice al ll cl] 29) = wb := ⟨_, rfl⟩
  have hbl : Below w.heap.size w wb := by rw [← hwb]; exact (Below.refl _ _).alloc (Nat.le_refl _) _
  have hsz := hbl.size
  have hcell : wb.heap[w.heap.size]? = some (.cells #[.int .i64 3, .int .i64 p, .int .i64 n, .slice al ll cl] 29 (0, 0)) := by rw [← hwb]; exact heap_alloc_new w _
  have HT : Hid (Calls Try.prog 20 #[.pointer (some ⟨bt, 0, none⟩)] wb fun e w' => e = .returned (.int .i64 ((S.length : Nat) + 1 : Int)) ∧ Hid (Both B Q w' bt bx L (S ++ [L]) L S ng ∧ Fr (fun k => B ≤ k ∧ ¬ Q k) w w')) := by
    refine (both_t_save (w := wb) (by omega) (fun k hk => by have := hQ k hk; omega) (h.below hbl) (by unfold lim; omega)).mono ?_
    rintro e w' ⟨rfl, hbo, hf⟩
    exact ⟨rfl, hbo, (Fr.of_below (fun k => B ≤ k ∧ ¬ Q k) hbl).trans hf (fun _ _ h => h)⟩
  have HX : Hid (∀ W, Hid (Both B Q W bt bx L (S ++ [L]) L S ng ∧ Fr (fun k => B ≤ k ∧ ¬ Q k) w W) → Calls Try.prog 27 #[.pointer (some ⟨bx, 0, none⟩)] W fun e w' => e = .returned (.int .i64 ((S.length : Nat) + 1 : Int)) ∧ Hid (Both B Q w' bt bx L (S ++ [L]) L (S ++ [L]) ng ∧ Fr (fun k => B ≤ k ∧ ¬ Q k) w w')) := by
    intro W hW
    have := hW.out.2.size
    refine (both_x_save (w := W) (by omega) (fun k hk => by have := hQ k hk; omega) hW.out.1 hs).mono ?_
    rintro e w' ⟨rfl, hbo, hf⟩
    exact ⟨rfl, hbo, hW.out.2.trans hf (fun _ _ h => h)⟩
  have c0 : wb.cell? ⟨w.heap.size, 0, none⟩ = some (.int .i64 3) := cell_row hcell 0
  have hbw : w.heap.size < wb.heap.size := heap_lt hcell
  obtain ⟨R, hR⟩ : ∃ R, ((S.length : Nat) + 1 : Int) = R := ⟨_, rfl⟩
  rw [hR] at HT HX
  have hne : ((R : Int) == R) = true := by simp
  have HWB := Lib.hid hwb
  clear hwb hbl hsz hcell h hQ hR hs
  go_enter Try.func11, Try.ntmps11
  go_upto_region 1 with fail
  rw [HWB.out]
  go_wp2_with (first
    | (go_at_call 20; refine HT.out.mono ?_; rintro e w2 ⟨rfl, hbo⟩)
    | (go_at_call 27; refine (HX.out _ hbo).mono ?_; rintro e w3 ⟨rfl, hfin⟩))
  go_ret
  exact ⟨rfl, hfin.out⟩

/-- the slice's row, written over up to i -/
def Ov (w : World) (v : Value) (X : List Int) (i : Nat) : Prop := ∀ g, v.ownBlock = some g → ∃ cur : Array Value, w.heap[g]? = some (.cells cur 21 (0, 0)) ∧ ∀ j, i ≤ j → j < X.length → cur[j]? = some (.int .i32 (X.getD j 0))
theorem Ov.of_own {w : World} {B : Nat} {a : Option Addr} {n c : Nat} {X : List Int} (h : w.ownsRow B 21 1 (.slice a n c) n (ints X)) (hn : X.length = n) : Ov w (.slice a n c) X 0 := by
  intro g hg
  rcases h.2 with ⟨hv, _⟩ | ⟨g', cap', cur, hv, hb, hgg, hnc, hcm, hcs, htake⟩
  · injection hv with e1
    subst e1
    cases hg
  · injection hv with e1 e2 e3
    subst e1 e3
    obtain rfl : g' = g := by injection hg
    refine ⟨_, hgg, fun j _ hj => ?_⟩
    have h1 : (cur.toList.take (n * 1))[j]? = (ints X)[j]? := by rw [htake]
    rw [List.getElem?_take, if_pos (by omega)] at h1
    rw [← Array.getElem?_toList, h1]
    simp [ints, List.getD_eq_getElem?_getD, hj]
theorem Ov.set {w : World} {g n c i : Nat} {X : List Int} {u : Value} (h : Ov w (.slice (some ⟨g, 0, none⟩) n c) X i) : Ov (w.setCell ⟨g, i, none⟩ u) (.slice (some ⟨g, 0, none⟩) n c) X (i + 1) := by
  intro k hk
  simp [Value.ownBlock] at hk
  subst hk
  obtain ⟨cur, h1, h2⟩ := h g rfl
  refine ⟨_, heap_set h1 i u, fun j hj hl => ?_⟩
  rw [Array.getElem?_setIfInBounds_ne (by omega)]
  exact h2 j (by omega) hl
theorem Ov.get {w : World} {g n c i : Nat} {X : List Int} (h : Ov w (.slice (some ⟨g, 0, none⟩) n c) X i) (hi : i < X.length) : w.cell? ⟨g, i, none⟩ = some (.int .i32 (X.getD i 0)) ∧ w.frozen? ⟨g, i, none⟩ = false ∧ g < w.heap.size := by
  obtain ⟨cur, h1, h2⟩ := h g rfl
  exact ⟨(cell_row h1 i).trans (h2 i (Nat.le_refl _) hi), frozen_row h1 i, heap_lt h1⟩

/-- behind the two slices: the two tables, the row that came, the document's row -/
structure SI (B : Nat) (Q : Nat → Prop) (w wr : World) (bt bx : Nat) (L : List Int) (S : List (List Int)) (ng : Nat) (v : Value) (bb : Option Addr) (cb : Nat) (X : List Int) (i : Nat) : Prop where
  both : Both B (fun k => Q k ∨ some k = v.ownBlock) wr bt bx L S L S ng
  fr : Fr (fun k => B ≤ k ∧ ¬ Q k) w wr
  ov : Ov wr v X i
  rd : Rd .i32 wr bb X.length cb X
  apart : ∀ g, v.ownBlock = some g → w.heap.size ≤ g ∧ g < wr.heap.size ∧ ∀ o off, bb = some ⟨o, off, none⟩ → o ≠ g

theorem SI.set {B : Nat} {Q : Nat → Prop} {w wr : World} {bt bx : Nat} {L : List Int} {S : List (List Int)} {ng g n c cb i q : Nat} {bb : Option Addr} {X : List Int} {u : Value} (h : SI B Q w wr bt bx L S ng (.slice (some ⟨g, 0, none⟩) n c) bb cb X i) :
    SI B Q w ((wr.drewN q).setCell ⟨g, i, none⟩ u) bt bx L S ng (.slice (some ⟨g, 0, none⟩) n c) bb cb X (i + 1) := by
  obtain ⟨p1, p2, p3⟩ := h.apart g rfl
  have hb : Below wr.heap.size wr (wr.drewN q) := bdrewN (Below.refl _ _) q
  have hsz : ((wr.drewN q).setCell ⟨g, i, none⟩ u).heap.size = wr.heap.size := by
    have : (wr.drewN q).heap.size = wr.heap.size := rfl
    simp [this]
  have hf : Fr (fun k => k = g) wr ((wr.drewN q).setCell ⟨g, i, none⟩ u) := (Fr.of_below (fun k => k = g) hb).setCell _ _ (fun _ => rfl)
  refine ⟨h.both.fr hf (fun k e => .inr (by rw [e]; rfl)), (h.fr.trans (Fr.of_below (fun k => B ≤ k ∧ ¬ Q k) hb) (fun _ _ h => h)).setCell _ _ (fun hlt => absurd hlt (by simp only; omega)), ?_, h.rd.fr hf (fun o off e hk => p3 o off e hk), fun k hk => by rw [hsz]; exact h.apart k hk⟩
  have ho : Ov (wr.drewN q) (.slice (some ⟨g, 0, none⟩) n c) X i := h.ov
  exact ho.set

set_option maxRecDepth 100000 in
set_option maxHeartbeats 2000000 in
theorem do_slice (B : Nat) (Q : Nat → Prop) (w : World) (bt bx : Nat) (L : List Int) (S : List (List Int)) (ng : Nat) (hB : B ≤ w.heap.size) (hQ : ∀ k, Q k → k < w.heap.size) (h : Both B Q w bt bx L S L S ng)
    (p n : Int) (al : Option Addr) (ll cl : Nat) (hp : i64b p) (hn : i64b n) (hg : ng ≤ lim) :
    Calls Try.prog 11 #[.pointer (some ⟨bt, 0, none⟩), .pointer (some ⟨bx, 0, none⟩), .agg #[.int .i64 2, .int .i64 p, .int .i64 n, .slice al ll cl]] w fun e w' => e = .returned (.bool true) ∧ Both B Q w' bt bx L S L S ng ∧ Fr (fun k => B ≤ k ∧ ¬ Q k) w w' := by
  obtain ⟨wb, hwb⟩ : ∃ wb, w.alloc (.cells #[.int .i64 2, .int .i64 p, .int .i64 n, .slice al ll cl] 29) = wb := ⟨_, rfl⟩
  have hbl : Below w.heap.size w wb := by rw [← hwb]; exact (Below.refl _ _).alloc (Nat.le_refl _) _
  have hsz := hbl.size
  have hcell : wb.heap[w.heap.size]? = some (.cells #[.int .i64 2, .int .i64 p, .int .i64 n, .slice al ll cl] 29 (0, 0)) := by rw [← hwb]; exact heap_alloc_new w _
  have hbw : w.heap.size < wb.heap.size := heap_lt hcell
  have hw : ∀ x ∈ (sliM L p n).1, (Lit.int .i32 x).wf = true := by
    intro x hx
    unfold sliM at hx
    split at hx
    · exact h.wfX x (List.mem_of_mem_drop (List.mem_of_mem_take hx))
    · cases hx
  have hXl : (sliM L p n).1.length ≤ 65536 := by
    have := h.lenX
    unfold sliM
    split
    · simp; omega
    · simp
  obtain ⟨X, hX⟩ : ∃ X, (sliM L p n).1 = X := ⟨_, rfl⟩
  obtain ⟨c, hc⟩ : ∃ c, (sliM L p n).2 = c := ⟨_, rfl⟩
  have HT : Hid (Calls Try.prog 19 #[.pointer (some ⟨bt, 0, none⟩), .int .i64 p, .int .i64 n] wb fun e w' => ∃ a ca, e = .returned (.tuple #[.slice a X.length ca, .int .i64 c]) ∧ w'.cell? ⟨w.heap.size, 1, none⟩ = some (.int .i64 p) ∧ w'.cell? ⟨w.heap.size, 2, none⟩ = some (.int .i64 n) ∧ w.heap.size < w'.heap.size ∧
      Hid (w'.ownsRow wb.heap.size 21 1 (.slice a X.length ca) X.length (ints X) ∧ Below wb.heap.size wb w')) := by
    refine (both_t_sli (h.below hbl) p n hp hn hg).mono ?_
    rintro e w' ⟨a, ca, rfl, ho, hb⟩
    have hc' := (hb.block _ hbw).trans hcell
    rw [hX] at ho ⊢
    rw [hc]
    exact ⟨a, ca, rfl, cell_row hc' 1, cell_row hc' 2, heap_lt hc', ho, hb⟩
  have HX : Hid (∀ W a ca, Hid (W.ownsRow wb.heap.size 21 1 (.slice a X.length ca) X.length (ints X) ∧ Below wb.heap.size wb W) → Calls Try.prog 26 #[.pointer (some ⟨bx, 0, none⟩), .int .i64 p, .int .i64 n] W fun e w' => ∃ bb cb, e = .returned (.tuple #[.slice bb X.length cb, .int .i64 c]) ∧
      Hid (SI B Q w w' bt bx L S ng (.slice a X.length ca) bb cb X 0 ∧ (0 < X.length → ∃ g, a = some ⟨g, 0, none⟩))) := by
    intro W a ca hW
    obtain ⟨ho, hb⟩ := hW.out
    have hbo : Both B (fun k => Q k ∨ some k = (Value.slice a X.length ca).ownBlock) W bt bx L S L S ng := (h.below hbl).more (fun k hk => (ho.lt k hk.symm).1) hb
    refine (both_x_sli hbo p n hp).mono ?_
    rintro e w' ⟨bb, cb, rfl, ho2, hb2⟩
    rw [hX] at ho2 ⊢
    rw [hc]
    refine ⟨bb, cb, rfl, ⟨hbo.below hb2, ?_, Ov.of_own (own_fr ho (Fr.of_below (fun _ => False) hb2) (fun _ _ h => h)) rfl, own_rd ho2 (by rw [← hX]; exact hw), ?_⟩, fun hp => own_some ho hp⟩
    · exact ((Fr.of_below (fun k => B ≤ k ∧ ¬ Q k) hbl).trans (Fr.of_below (fun k => B ≤ k ∧ ¬ Q k) hb) (fun _ _ h => h)).trans (Fr.of_below (fun k => B ≤ k ∧ ¬ Q k) hb2) (fun _ _ h => h)
    · intro g hg
      have h1 := ho.lt g hg
      have h2 := hb2.size
      refine ⟨by omega, by omega, fun o off e hk => ?_⟩
      subst hk
      have := (ho2.lt o (by rw [e]; rfl)).1
      omega
  have HS : Hid (∀ wr g ca bb cb i q, SI B Q w wr bt bx L S ng (.slice (some ⟨g, 0, none⟩) X.length ca) bb cb X i → SI B Q w ((wr.drewN q).setCell ⟨g, i, none⟩ (.int .i32 7)) bt bx L S ng (.slice (some ⟨g, 0, none⟩) X.length ca) bb cb X (i + 1)) := fun wr g ca bb cb i q hh => hh.set
  have c0 : wb.cell? ⟨w.heap.size, 0, none⟩ = some (.int .i64 2) := cell_row hcell 0
  have c1 : wb.cell? ⟨w.heap.size, 1, none⟩ = some (.int .i64 p) := cell_row hcell 1
  have c2 : wb.cell? ⟨w.heap.size, 2, none⟩ = some (.int .i64 n) := cell_row hcell 2
  rw [hX] at hXl
  obtain ⟨NX, hNX⟩ : ∃ NX, X.length = NX := ⟨_, rfl⟩
  rw [hNX] at HT HX hXl HS
  have HNX := Lib.hid hNX
  have HWB := Lib.hid hwb
  have hne1 : ((c : Int) == c) = true := by simp
  have hne2 : ((NX : Int) == (NX : Int)) = true := by simp
  clear hwb hbl hsz hcell h hQ hw hX hc hNX hp hn hg hB
  go_enter Try.func11, Try.ntmps11
  go_upto_region 1 with fail
  rw [HWB.out]
  go_wp2_with (first
    | (go_at_call 19; refine HT.out.mono ?_; rintro e w2 ⟨a, ca, rfl, q1, q2, q3, hoo⟩)
    | (go_at_call 26; refine (HX.out _ _ _ hoo).mono ?_; rintro e w3 ⟨bb, cb, rfl, hsi⟩))
  have HSI : Hid (SI B Q w w3 bt bx L S ng (.slice a NX ca) bb cb X 0) := hsi.out.1
  have HSOME : Hid (0 < NX → ∃ g, a = some ⟨g, 0, none⟩) := hsi.out.2
  clear hsi hoo q1 q2 q3 c0 c1 c2 hbw
  go_loopw [14] (fun s14 wr => ∃ i : Nat, s14 = .int .i64 i ∧ i ≤ NX ∧ Hid (SI B Q w wr bt bx L S ng (.slice a NX ca) bb cb X i)) (fun s14 _ => NX - (intOf s14).toNat)
  case atStart => exact ⟨0, rfl, Nat.zero_le _, HSI⟩
  case round =>
    obtain ⟨i, rfl, hi, hsi⟩ := hrel
    clear HSI
    by_cases hlt : i < NX
    · obtain ⟨g, rfl⟩ := HSOME.out (by omega)
      obtain ⟨g1, g2, g3⟩ := hsi.out.ov.get (by have := HNX.out; omega)
      obtain ⟨b2, o2, hbb, hcc⟩ := hsi.out.rd.2.2.2.2.2 (by have := HNX.out; omega)
      subst hbb
      have g4 := hcc i (by have := HNX.out; omega)
      have g5 := block_lt_of_cell g4
      obtain ⟨x, hx⟩ : ∃ x, X.getD i 0 = x := ⟨_, rfl⟩
      rw [hx] at g1 g4
      have hxx : (x != x) = false := by simp
      have hge : decide ((NX : Int) ≤ (i : Int)) = false := by simp; omega
      clear hcc hx
      go_wp2_with fail
      go_quiet (fail)
      go_wp2_with fail
      go_roundw
      case rel => exact ⟨i + 1, by go_num, by omega, HS.out _ _ _ _ _ _ _ hsi.out⟩
      case measure => simp [intOf]; omega
    · obtain rfl : i = NX := by omega
      go_wp2_with fail
      go_ret
      exact ⟨rfl, hsi.out.both.less (fun k hk => .inl hk), hsi.out.fr⟩
end Go.Proofs.Ytblbbcgdgbajnaa.U
