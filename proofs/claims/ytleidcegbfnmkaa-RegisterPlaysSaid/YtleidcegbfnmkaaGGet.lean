/-
  The document's Get. MADE by wip/tools/gen_rget12.py.
-/
import Derived.Test.YtleidcegbfnmkaaGJoinB
namespace Go.Proofs.Ytleidcegbfnmkaa.U
open Go.RowKit
set_option linter.unusedVariables false
set_option linter.unusedSimpArgs false
set_option maxRecDepth 100000

def toldR : Option Rg → Rg × Int
  | some r => (r, 0)
  | none => (rg0, 26)
theorem getR_told (s : List Nm) (n : Int) : getR s n = if mayG (nameG n) then toldR (holdsR s (nameG n)) else (rg0, 1) := by
  unfold getR toldR
  split
  · cases holdsR s (nameG n) <;> rfl
  · rfl
/-- a box for what is told, at b -/
structure RBx (b : Nat) (W : World) : Prop where
  d0 : W.cell? ⟨b, 0, none⟩ = some (.int .i64 0)
  d1 : W.cell? ⟨b, 1, none⟩ = some (.slice none 0 0)
  z0 : W.frozen? ⟨b, 0, none⟩ = false
  z1 : W.frozen? ⟨b, 1, none⟩ = false
  l : b < W.heap.size
theorem rbx_new (w : World) : ∀ W, Below (w.heap.size + 1) (w.alloc (.cells #[.int .i64 0, .slice none 0 0] 31)) W → RBx w.heap.size W := by
  intro W hW
  have h := (hW.block w.heap.size (by omega)).trans (heap_alloc_new w _)
  exact ⟨cell_row h 0, cell_row h 1, frozen_row h 0, frozen_row h 1, heap_lt h⟩
/-- what Get leaves -/
def GetA (w w' : World) (g : Rg) (er : Int) (e : Ending) : Prop := ∃ a c, e = .returned (.tuple #[rgV g.k a g.L.length c, .int .i64 er]) ∧ RdL (fun x => w.heap.size ≤ x) w' a g.L.length c g.L ∧ Below w.heap.size w w'
theorem get_none {w wb W : World} {b : Nat} {er : Int} (hb : Below w.heap.size w wb) (h : Below wb.heap.size wb W) (hbe : w.heap.size = b) : GetA w ((W.setCell ⟨b, 0, none⟩ (.int .i64 0)).setCell ⟨b, 1, none⟩ (.slice none 0 0)) rg0 er (.returned (.tuple #[.agg #[.int .i64 0, .slice none 0 0], .int .i64 er])) := by
  subst hbe
  exact ⟨none, 0, rfl, RdL.none0 _ _, ((hb.trans (h.mono hb.size)).setCell (Nat.le_refl _) _).setCell (Nat.le_refl _) _⟩
theorem get_none2 {w wb W : World} {b : Nat} (o : Obj) (hb : Below w.heap.size w wb) (h : Below wb.heap.size wb W) (hbe : w.heap.size = b) : GetA w (((W.setCell ⟨b, 0, none⟩ (.int .i64 0)).setCell ⟨b, 1, none⟩ (.slice none 0 0)).alloc o) (toldR none).1 (toldR none).2 (.returned (.tuple #[.agg #[.int .i64 0, .slice none 0 0], .int .i64 26])) := by
  subst hbe
  exact ⟨none, 0, rfl, RdL.none0 _ _, (((hb.trans (h.mono hb.size)).setCell (Nat.le_refl _) _).setCell (Nat.le_refl _) _).alloc (Nat.le_trans hb.size (Nat.le_trans h.size (by simp))) _⟩
theorem get_some {w wb W : World} {b : Nat} {gk : Int} {gL : List (List Int)} {gn : Nat} {ta : Option Addr} {tc : Nat} (hb : Below w.heap.size w wb) (hs : wb.heap.size = w.heap.size + 1) (hbe : w.heap.size = b) (h : RdL (fun x => wb.heap.size ≤ x) W ta gn tc gL ∧ Below wb.heap.size wb W) (hgn : gL.length = gn) : GetA w ((W.setCell ⟨b, 0, none⟩ (.int .i64 gk)).setCell ⟨b, 1, none⟩ (.slice ta gn tc)) ⟨gk, gL⟩ 0 (.returned (.tuple #[.agg #[.int .i64 gk, .slice ta gn tc], .int .i64 0])) := by
  subst hbe
  subst hgn
  refine ⟨ta, tc, rfl, (h.1.frF (G := fun k => k = w.heap.size) (((Fr.refl (fun k => k = w.heap.size) W).setCell ⟨w.heap.size, 0, none⟩ _ (fun _ => rfl)).setCell ⟨w.heap.size, 1, none⟩ _ (fun _ => rfl)) (fun k h1 h2 => by omega)).mono (fun k hk => by omega), ((hb.trans (h.2.mono hb.size)).setCell (Nat.le_refl _) _).setCell (Nat.le_refl _) _⟩

set_option maxHeartbeats 4000000 in
theorem rgetR_any {P : Nat → Prop} {bx : Nat} {s : List Nm} (r : Int) (w : World) (h : RSt P w bx s) (hok : OkS s) :
    Calls Try.prog 12 #[.pointer (some ⟨bx, 0, none⟩), .int .i32 r] w fun e w' => GetA w w' (getR s r).1 (getR s r).2 e := by
  obtain ⟨wb, hwb⟩ : ∃ wb, w.alloc (.cells #[.int .i64 0, .slice none 0 0] 31) = wb := ⟨_, rfl⟩
  have hrb := rbx_new w
  rw [hwb] at hrb
  have hsz : wb.heap.size = w.heap.size + 1 := by rw [← hwb]; simp
  have hB : Below w.heap.size w wb := by rw [← hwb]; exact (Below.refl _ w).alloc (Nat.le_refl _) _
  rw [← hsz] at hrb
  have HHN : Hid (∀ n, holdsR s n = none → Calls Try.prog 26 #[.pointer (some ⟨bx, 0, none⟩), .int .i32 n] wb fun e w' => e = .returned (.tuple #[.agg #[.int .i64 0, .slice none 0 0], .bool false]) ∧ RBx w.heap.size w' ∧ Hid (Below wb.heap.size wb w')) := by
    intro n hn
    refine (rholds_any n wb (h.below hB) hok).mono ?_
    rintro e w' ⟨h1, h2⟩
    rw [hn] at h1
    exact ⟨h1, hrb w' h2, h2⟩
  have HHS : Hid (∀ n (g : Rg), holdsR s n = some g → Calls Try.prog 26 #[.pointer (some ⟨bx, 0, none⟩), .int .i32 n] wb fun e w' => ∃ a c, e = .returned (.tuple #[.agg #[.int .i64 g.k, .slice a g.L.length c], .bool true]) ∧ RBx w.heap.size w' ∧
      Hid (∀ o, Calls Try.prog 14 #[.agg #[.int .i64 g.k, .slice a g.L.length c]] (w'.alloc o) fun e w2 => ∃ a2 c2, e = .returned (.agg #[.int .i64 g.k, .slice a2 g.L.length c2]) ∧ RBx w.heap.size w2 ∧ Hid (RdL (fun x => wb.heap.size ≤ x) w2 a2 g.L.length c2 g.L ∧ Below wb.heap.size wb w2))) := by
    intro n g hn
    have hg := hok.holds hn
    refine (rholds_any n wb (h.below hB) hok).mono ?_
    rintro e w' ⟨h1, h2⟩
    rw [hn] at h1
    obtain ⟨a, c, rfl, hr⟩ := h1
    refine ⟨a, c, rfl, hrb w' h2, fun o => ?_⟩
    have hbo : Below w'.heap.size w' (w'.alloc o) := (Below.refl _ _).alloc (Nat.le_refl _) _
    refine (rtwinR_any _ g.k a g.L.length c g.L (w'.alloc o) (hr.below hbo) (by have := hg.2.2.2; omega)).mono ?_
    rintro e w2 ⟨a2, c2, rfl, hf, hb⟩
    have h3 : Below wb.heap.size wb (w'.alloc o) := h2.trans (hbo.mono h2.size)
    have h4 : Below wb.heap.size wb w2 := h3.trans (hb.mono h3.size)
    exact ⟨a2, c2, rfl, hrb w2 h4, (hf.rdl (lines_wfG hr)).mono (fun x hx => Nat.le_trans h3.size hx), h4⟩
  have HBIG : Hid (∀ c w, Calls Try.prog 24 #[.int .i32 c] w fun e w' => e = .returned (.bool (bigR c)) ∧ w' = w) := rbig_any
  have HLIT : Hid (∀ c w, Calls Try.prog 25 #[.int .i32 c] w fun e w' => e = .returned (.bool (littleR c)) ∧ w' = w) := rlittle_any
  have hx := hrb wb (Below.refl _ _)
  have HB := Lib.hid (And.intro hB hsz)
  have HW := Lib.hid hwb
  clear h hok hwb hB hrb hsz
  obtain ⟨b, hbe⟩ : ∃ b, w.heap.size = b := ⟨_, rfl⟩
  have HBE := Lib.hid hbe
  rw [hbe] at hx HHN HHS
  clear hbe
  obtain ⟨x0, x1, x2, x3, x4⟩ := hx
  by_cases h0 : r = 0
  · subst h0
    have tb : bigR 34 = false := by decide
    have HG : Hid (getR s 0 = toldR (holdsR s (34))) := by
      show _ = _
      rw [getR_told]; simp [nameG, mayG, bigR]
    obtain ⟨o, ho⟩ : ∃ o, holdsR s (34) = o := ⟨_, rfl⟩
    cases o with
    | none =>
      have HO := Lib.hid ho
      have HN := Lib.hid (HHN.out _ ho)
      clear ho
      go_enter Try.func12, Try.ntmps12
      go_upto_region 1 with fail
      rw [HW.out, HBE.out]
      go_wp2_with (first
        | (go_at_call 24; refine (HBIG.out _ _).mono ?_; rintro e wq ⟨rfl, hwq⟩; subst hwq; rw [tb])
        | (go_at_call 25; refine (HLIT.out _ _).mono ?_; rintro e wq ⟨rfl, hwq⟩; subst hwq; rw [tl])
        | (go_at_call 26; refine HN.out.mono ?_; rintro e w2 ⟨rfl, ⟨q0, q1, q2, q3, q4⟩, hb2⟩))
      refine bodyPost_ret (v := .tuple #[.agg #[.int .i64 0, .slice none 0 0], .int .i64 26]) ?_ rfl ?_
      · rw [results_ct rfl]
        go_simp
      · rw [HO.out] at HG
        rw [HG.out]
        exact get_none2 _ HB.out.1 hb2.out HBE.out
    | some g =>
      have HO := Lib.hid ho
      have HN := Lib.hid (HHS.out _ g ho)
      clear ho
      obtain ⟨gk, gL⟩ := g
      obtain ⟨gn, hgn⟩ : ∃ gn, gL.length = gn := ⟨_, rfl⟩
      have HGN := Lib.hid hgn
      simp only [hgn] at HN
      clear hgn
      go_enter Try.func12, Try.ntmps12
      go_upto_region 1 with fail
      rw [HW.out, HBE.out]
      go_wp2_with (first
        | (go_at_call 24; refine (HBIG.out _ _).mono ?_; rintro e wq ⟨rfl, hwq⟩; subst hwq; rw [tb])
        | (go_at_call 25; refine (HLIT.out _ _).mono ?_; rintro e wq ⟨rfl, hwq⟩; subst hwq; rw [tl])
        | (go_at_call 26; refine HN.out.mono ?_; rintro e w2 ⟨ha, hc, rfl, ⟨q0, q1, q2, q3, q4⟩, HTW⟩)
        | (go_at_call 14; refine (HTW.out _).mono ?_; rintro e w3 ⟨ta, tc, rfl, ⟨p0, p1, p2, p3, p4⟩, HFIN⟩))
      refine bodyPost_ret (v := .tuple #[.agg #[.int .i64 gk, .slice ta gn tc], .int .i64 0]) ?_ rfl ?_
      · rw [results_ct rfl]
        go_simp
      · rw [HO.out] at HG
        rw [HG.out]
        exact get_some HB.out.1 HB.out.2 HBE.out HFIN.out HGN.out
  have t0 : (r == 0) = false := by simpa using h0
  by_cases hbig : bigR r = true
  · have hb2 := hbig
    unfold bigR at hb2
    simp only [Bool.and_eq_true, decide_eq_true_eq] at hb2
    have tb : bigR r = true := hbig
    have y1 : IntKind.i32.wrap (r - 65) = r - 65 := by unfold IntKind.wrap; simp [IntKind.signed, IntKind.bits]; omega
    have y2 : IntKind.i32.wrap (r - 65 + 97) = r + 32 := by unfold IntKind.wrap; simp [IntKind.signed, IntKind.bits]; omega
    have tl : littleR (r + 32) = true := by unfold littleR; simp; omega
    have t1 : (r + 32 != 34) = true := by simp; omega
    have t2 : (r + 32 != 95) = true := by simp; omega
    have t3 : (r + 32 != 45) = true := by simp; omega
    have HG : Hid (getR s r = toldR (holdsR s (r + 32))) := by
      show _ = _
      rw [getR_told]; unfold nameG mayG
      rw [if_neg h0, if_pos hbig, tl]
      simp
    clear hb2 h0 hbig
    obtain ⟨o, ho⟩ : ∃ o, holdsR s (r + 32) = o := ⟨_, rfl⟩
    cases o with
    | none =>
      have HO := Lib.hid ho
      have HN := Lib.hid (HHN.out _ ho)
      clear ho
      go_enter Try.func12, Try.ntmps12
      go_upto_region 1 with fail
      rw [HW.out, HBE.out]
      go_wp2_with (first
        | (go_at_call 24; refine (HBIG.out _ _).mono ?_; rintro e wq ⟨rfl, hwq⟩; subst hwq; rw [tb])
        | (go_at_call 25; refine (HLIT.out _ _).mono ?_; rintro e wq ⟨rfl, hwq⟩; subst hwq; rw [tl])
        | (go_at_call 26; refine HN.out.mono ?_; rintro e w2 ⟨rfl, ⟨q0, q1, q2, q3, q4⟩, hb2⟩))
      refine bodyPost_ret (v := .tuple #[.agg #[.int .i64 0, .slice none 0 0], .int .i64 26]) ?_ rfl ?_
      · rw [results_ct rfl]
        go_simp
      · rw [HO.out] at HG
        rw [HG.out]
        exact get_none2 _ HB.out.1 hb2.out HBE.out
    | some g =>
      have HO := Lib.hid ho
      have HN := Lib.hid (HHS.out _ g ho)
      clear ho
      obtain ⟨gk, gL⟩ := g
      obtain ⟨gn, hgn⟩ : ∃ gn, gL.length = gn := ⟨_, rfl⟩
      have HGN := Lib.hid hgn
      simp only [hgn] at HN
      clear hgn
      go_enter Try.func12, Try.ntmps12
      go_upto_region 1 with fail
      rw [HW.out, HBE.out]
      go_wp2_with (first
        | (go_at_call 24; refine (HBIG.out _ _).mono ?_; rintro e wq ⟨rfl, hwq⟩; subst hwq; rw [tb])
        | (go_at_call 25; refine (HLIT.out _ _).mono ?_; rintro e wq ⟨rfl, hwq⟩; subst hwq; rw [tl])
        | (go_at_call 26; refine HN.out.mono ?_; rintro e w2 ⟨ha, hc, rfl, ⟨q0, q1, q2, q3, q4⟩, HTW⟩)
        | (go_at_call 14; refine (HTW.out _).mono ?_; rintro e w3 ⟨ta, tc, rfl, ⟨p0, p1, p2, p3, p4⟩, HFIN⟩))
      refine bodyPost_ret (v := .tuple #[.agg #[.int .i64 gk, .slice ta gn tc], .int .i64 0]) ?_ rfl ?_
      · rw [results_ct rfl]
        go_simp
      · rw [HO.out] at HG
        rw [HG.out]
        exact get_some HB.out.1 HB.out.2 HBE.out HFIN.out HGN.out
  have tb : bigR r = false := by simpa using hbig
  have hnm : nameG r = r := by unfold nameG; rw [if_neg h0, if_neg hbig]
  by_cases h34 : r = 34
  · subst h34
    have HG : Hid (getR s 34 = toldR (holdsR s (34))) := by
      show _ = _
      rw [getR_told, hnm]; simp [mayG]
    clear hnm hbig h0
    obtain ⟨o, ho⟩ : ∃ o, holdsR s (34) = o := ⟨_, rfl⟩
    cases o with
    | none =>
      have HO := Lib.hid ho
      have HN := Lib.hid (HHN.out _ ho)
      clear ho
      go_enter Try.func12, Try.ntmps12
      go_upto_region 1 with fail
      rw [HW.out, HBE.out]
      go_wp2_with (first
        | (go_at_call 24; refine (HBIG.out _ _).mono ?_; rintro e wq ⟨rfl, hwq⟩; subst hwq; rw [tb])
        | (go_at_call 25; refine (HLIT.out _ _).mono ?_; rintro e wq ⟨rfl, hwq⟩; subst hwq; rw [tl])
        | (go_at_call 26; refine HN.out.mono ?_; rintro e w2 ⟨rfl, ⟨q0, q1, q2, q3, q4⟩, hb2⟩))
      refine bodyPost_ret (v := .tuple #[.agg #[.int .i64 0, .slice none 0 0], .int .i64 26]) ?_ rfl ?_
      · rw [results_ct rfl]
        go_simp
      · rw [HO.out] at HG
        rw [HG.out]
        exact get_none2 _ HB.out.1 hb2.out HBE.out
    | some g =>
      have HO := Lib.hid ho
      have HN := Lib.hid (HHS.out _ g ho)
      clear ho
      obtain ⟨gk, gL⟩ := g
      obtain ⟨gn, hgn⟩ : ∃ gn, gL.length = gn := ⟨_, rfl⟩
      have HGN := Lib.hid hgn
      simp only [hgn] at HN
      clear hgn
      go_enter Try.func12, Try.ntmps12
      go_upto_region 1 with fail
      rw [HW.out, HBE.out]
      go_wp2_with (first
        | (go_at_call 24; refine (HBIG.out _ _).mono ?_; rintro e wq ⟨rfl, hwq⟩; subst hwq; rw [tb])
        | (go_at_call 25; refine (HLIT.out _ _).mono ?_; rintro e wq ⟨rfl, hwq⟩; subst hwq; rw [tl])
        | (go_at_call 26; refine HN.out.mono ?_; rintro e w2 ⟨ha, hc, rfl, ⟨q0, q1, q2, q3, q4⟩, HTW⟩)
        | (go_at_call 14; refine (HTW.out _).mono ?_; rintro e w3 ⟨ta, tc, rfl, ⟨p0, p1, p2, p3, p4⟩, HFIN⟩))
      refine bodyPost_ret (v := .tuple #[.agg #[.int .i64 gk, .slice ta gn tc], .int .i64 0]) ?_ rfl ?_
      · rw [results_ct rfl]
        go_simp
      · rw [HO.out] at HG
        rw [HG.out]
        exact get_some HB.out.1 HB.out.2 HBE.out HFIN.out HGN.out
  have t34 : (r != 34) = true := by simpa using h34
  by_cases h95 : r = 95
  · subst h95
    have HG : Hid (getR s 95 = toldR (holdsR s (95))) := by
      show _ = _
      rw [getR_told, hnm]; simp [mayG]
    clear hnm hbig h0
    obtain ⟨o, ho⟩ : ∃ o, holdsR s (95) = o := ⟨_, rfl⟩
    cases o with
    | none =>
      have HO := Lib.hid ho
      have HN := Lib.hid (HHN.out _ ho)
      clear ho
      go_enter Try.func12, Try.ntmps12
      go_upto_region 1 with fail
      rw [HW.out, HBE.out]
      go_wp2_with (first
        | (go_at_call 24; refine (HBIG.out _ _).mono ?_; rintro e wq ⟨rfl, hwq⟩; subst hwq; rw [tb])
        | (go_at_call 25; refine (HLIT.out _ _).mono ?_; rintro e wq ⟨rfl, hwq⟩; subst hwq; rw [tl])
        | (go_at_call 26; refine HN.out.mono ?_; rintro e w2 ⟨rfl, ⟨q0, q1, q2, q3, q4⟩, hb2⟩))
      refine bodyPost_ret (v := .tuple #[.agg #[.int .i64 0, .slice none 0 0], .int .i64 26]) ?_ rfl ?_
      · rw [results_ct rfl]
        go_simp
      · rw [HO.out] at HG
        rw [HG.out]
        exact get_none2 _ HB.out.1 hb2.out HBE.out
    | some g =>
      have HO := Lib.hid ho
      have HN := Lib.hid (HHS.out _ g ho)
      clear ho
      obtain ⟨gk, gL⟩ := g
      obtain ⟨gn, hgn⟩ : ∃ gn, gL.length = gn := ⟨_, rfl⟩
      have HGN := Lib.hid hgn
      simp only [hgn] at HN
      clear hgn
      go_enter Try.func12, Try.ntmps12
      go_upto_region 1 with fail
      rw [HW.out, HBE.out]
      go_wp2_with (first
        | (go_at_call 24; refine (HBIG.out _ _).mono ?_; rintro e wq ⟨rfl, hwq⟩; subst hwq; rw [tb])
        | (go_at_call 25; refine (HLIT.out _ _).mono ?_; rintro e wq ⟨rfl, hwq⟩; subst hwq; rw [tl])
        | (go_at_call 26; refine HN.out.mono ?_; rintro e w2 ⟨ha, hc, rfl, ⟨q0, q1, q2, q3, q4⟩, HTW⟩)
        | (go_at_call 14; refine (HTW.out _).mono ?_; rintro e w3 ⟨ta, tc, rfl, ⟨p0, p1, p2, p3, p4⟩, HFIN⟩))
      refine bodyPost_ret (v := .tuple #[.agg #[.int .i64 gk, .slice ta gn tc], .int .i64 0]) ?_ rfl ?_
      · rw [results_ct rfl]
        go_simp
      · rw [HO.out] at HG
        rw [HG.out]
        exact get_some HB.out.1 HB.out.2 HBE.out HFIN.out HGN.out
  have t95 : (r != 95) = true := by simpa using h95
  by_cases h45 : r = 45
  · subst h45
    have HG : Hid (getR s 45 = toldR (holdsR s (45))) := by
      show _ = _
      rw [getR_told, hnm]; simp [mayG]
    clear hnm hbig h0
    obtain ⟨o, ho⟩ : ∃ o, holdsR s (45) = o := ⟨_, rfl⟩
    cases o with
    | none =>
      have HO := Lib.hid ho
      have HN := Lib.hid (HHN.out _ ho)
      clear ho
      go_enter Try.func12, Try.ntmps12
      go_upto_region 1 with fail
      rw [HW.out, HBE.out]
      go_wp2_with (first
        | (go_at_call 24; refine (HBIG.out _ _).mono ?_; rintro e wq ⟨rfl, hwq⟩; subst hwq; rw [tb])
        | (go_at_call 25; refine (HLIT.out _ _).mono ?_; rintro e wq ⟨rfl, hwq⟩; subst hwq; rw [tl])
        | (go_at_call 26; refine HN.out.mono ?_; rintro e w2 ⟨rfl, ⟨q0, q1, q2, q3, q4⟩, hb2⟩))
      refine bodyPost_ret (v := .tuple #[.agg #[.int .i64 0, .slice none 0 0], .int .i64 26]) ?_ rfl ?_
      · rw [results_ct rfl]
        go_simp
      · rw [HO.out] at HG
        rw [HG.out]
        exact get_none2 _ HB.out.1 hb2.out HBE.out
    | some g =>
      have HO := Lib.hid ho
      have HN := Lib.hid (HHS.out _ g ho)
      clear ho
      obtain ⟨gk, gL⟩ := g
      obtain ⟨gn, hgn⟩ : ∃ gn, gL.length = gn := ⟨_, rfl⟩
      have HGN := Lib.hid hgn
      simp only [hgn] at HN
      clear hgn
      go_enter Try.func12, Try.ntmps12
      go_upto_region 1 with fail
      rw [HW.out, HBE.out]
      go_wp2_with (first
        | (go_at_call 24; refine (HBIG.out _ _).mono ?_; rintro e wq ⟨rfl, hwq⟩; subst hwq; rw [tb])
        | (go_at_call 25; refine (HLIT.out _ _).mono ?_; rintro e wq ⟨rfl, hwq⟩; subst hwq; rw [tl])
        | (go_at_call 26; refine HN.out.mono ?_; rintro e w2 ⟨ha, hc, rfl, ⟨q0, q1, q2, q3, q4⟩, HTW⟩)
        | (go_at_call 14; refine (HTW.out _).mono ?_; rintro e w3 ⟨ta, tc, rfl, ⟨p0, p1, p2, p3, p4⟩, HFIN⟩))
      refine bodyPost_ret (v := .tuple #[.agg #[.int .i64 gk, .slice ta gn tc], .int .i64 0]) ?_ rfl ?_
      · rw [results_ct rfl]
        go_simp
      · rw [HO.out] at HG
        rw [HG.out]
        exact get_some HB.out.1 HB.out.2 HBE.out HFIN.out HGN.out
  have t45 : (r != 45) = true := by simpa using h45
  by_cases hl : littleR r = true
  · have tl : littleR r = true := hl
    have HG : Hid (getR s r = toldR (holdsR s (r))) := by
      show _ = _
      rw [getR_told, hnm]; unfold mayG; rw [tl]; simp
    clear hnm hbig h0 h34 h95 h45 hl
    obtain ⟨o, ho⟩ : ∃ o, holdsR s (r) = o := ⟨_, rfl⟩
    cases o with
    | none =>
      have HO := Lib.hid ho
      have HN := Lib.hid (HHN.out _ ho)
      clear ho
      go_enter Try.func12, Try.ntmps12
      go_upto_region 1 with fail
      rw [HW.out, HBE.out]
      go_wp2_with (first
        | (go_at_call 24; refine (HBIG.out _ _).mono ?_; rintro e wq ⟨rfl, hwq⟩; subst hwq; rw [tb])
        | (go_at_call 25; refine (HLIT.out _ _).mono ?_; rintro e wq ⟨rfl, hwq⟩; subst hwq; rw [tl])
        | (go_at_call 26; refine HN.out.mono ?_; rintro e w2 ⟨rfl, ⟨q0, q1, q2, q3, q4⟩, hb2⟩))
      refine bodyPost_ret (v := .tuple #[.agg #[.int .i64 0, .slice none 0 0], .int .i64 26]) ?_ rfl ?_
      · rw [results_ct rfl]
        go_simp
      · rw [HO.out] at HG
        rw [HG.out]
        exact get_none2 _ HB.out.1 hb2.out HBE.out
    | some g =>
      have HO := Lib.hid ho
      have HN := Lib.hid (HHS.out _ g ho)
      clear ho
      obtain ⟨gk, gL⟩ := g
      obtain ⟨gn, hgn⟩ : ∃ gn, gL.length = gn := ⟨_, rfl⟩
      have HGN := Lib.hid hgn
      simp only [hgn] at HN
      clear hgn
      go_enter Try.func12, Try.ntmps12
      go_upto_region 1 with fail
      rw [HW.out, HBE.out]
      go_wp2_with (first
        | (go_at_call 24; refine (HBIG.out _ _).mono ?_; rintro e wq ⟨rfl, hwq⟩; subst hwq; rw [tb])
        | (go_at_call 25; refine (HLIT.out _ _).mono ?_; rintro e wq ⟨rfl, hwq⟩; subst hwq; rw [tl])
        | (go_at_call 26; refine HN.out.mono ?_; rintro e w2 ⟨ha, hc, rfl, ⟨q0, q1, q2, q3, q4⟩, HTW⟩)
        | (go_at_call 14; refine (HTW.out _).mono ?_; rintro e w3 ⟨ta, tc, rfl, ⟨p0, p1, p2, p3, p4⟩, HFIN⟩))
      refine bodyPost_ret (v := .tuple #[.agg #[.int .i64 gk, .slice ta gn tc], .int .i64 0]) ?_ rfl ?_
      · rw [results_ct rfl]
        go_simp
      · rw [HO.out] at HG
        rw [HG.out]
        exact get_some HB.out.1 HB.out.2 HBE.out HFIN.out HGN.out
  have tl : littleR r = false := by simpa using hl
  by_cases h48 : r < 48
  · have d48 : decide (r < 48) = true := by simpa using h48
    have HG : Hid (getR s r = (rg0, 1)) := by
      show _ = _
      rw [getR_told, hnm]; unfold mayG; rw [tl]; simp [h34, h95, h45]; omega
    clear hnm hbig h0 h34 h95 h45 hl h48
    go_enter Try.func12, Try.ntmps12
    go_upto_region 1 with fail
    rw [HW.out, HBE.out]
    go_wp2_with (first
      | (go_at_call 24; refine (HBIG.out _ _).mono ?_; rintro e wq ⟨rfl, hwq⟩; subst hwq; rw [tb])
      | (go_at_call 25; refine (HLIT.out _ _).mono ?_; rintro e wq ⟨rfl, hwq⟩; subst hwq; rw [tl]))
    refine bodyPost_ret (v := .tuple #[.agg #[.int .i64 0, .slice none 0 0], .int .i64 1]) ?_ rfl ?_
    · rw [results_ct rfl]
      go_simp
    · rw [HG.out]
      exact get_none (er := 1) HB.out.1 (Below.refl _ _) HBE.out
  have d48 : decide (r < 48) = false := by simpa using h48
  by_cases h57 : 57 < r
  · have d57 : decide (57 < r) = true := by simpa using h57
    have HG : Hid (getR s r = (rg0, 1)) := by
      show _ = _
      rw [getR_told, hnm]; unfold mayG; rw [tl]; simp [h34, h95, h45]; omega
    clear hnm hbig h0 h34 h95 h45 hl
    go_enter Try.func12, Try.ntmps12
    go_upto_region 1 with fail
    rw [HW.out, HBE.out]
    go_wp2_with (first
      | (go_at_call 24; refine (HBIG.out _ _).mono ?_; rintro e wq ⟨rfl, hwq⟩; subst hwq; rw [tb])
      | (go_at_call 25; refine (HLIT.out _ _).mono ?_; rintro e wq ⟨rfl, hwq⟩; subst hwq; rw [tl]))
    refine bodyPost_ret (v := .tuple #[.agg #[.int .i64 0, .slice none 0 0], .int .i64 1]) ?_ rfl ?_
    · rw [results_ct rfl]
      go_simp
    · rw [HG.out]
      exact get_none (er := 1) HB.out.1 (Below.refl _ _) HBE.out
  have d57 : decide (57 < r) = false := by simpa using h57
  have HG : Hid (getR s r = toldR (holdsR s (r))) := by
    show _ = _
    rw [getR_told, hnm]; unfold mayG; rw [tl]; simp [h34, h95, h45]; omega
  clear hnm hbig h0 h34 h95 h45 hl
  obtain ⟨o, ho⟩ : ∃ o, holdsR s (r) = o := ⟨_, rfl⟩
  cases o with
  | none =>
    have HO := Lib.hid ho
    have HN := Lib.hid (HHN.out _ ho)
    clear ho
    go_enter Try.func12, Try.ntmps12
    go_upto_region 1 with fail
    rw [HW.out, HBE.out]
    go_wp2_with (first
      | (go_at_call 24; refine (HBIG.out _ _).mono ?_; rintro e wq ⟨rfl, hwq⟩; subst hwq; rw [tb])
      | (go_at_call 25; refine (HLIT.out _ _).mono ?_; rintro e wq ⟨rfl, hwq⟩; subst hwq; rw [tl])
      | (go_at_call 26; refine HN.out.mono ?_; rintro e w2 ⟨rfl, ⟨q0, q1, q2, q3, q4⟩, hb2⟩))
    refine bodyPost_ret (v := .tuple #[.agg #[.int .i64 0, .slice none 0 0], .int .i64 26]) ?_ rfl ?_
    · rw [results_ct rfl]
      go_simp
    · rw [HO.out] at HG
      rw [HG.out]
      exact get_none2 _ HB.out.1 hb2.out HBE.out
  | some g =>
    have HO := Lib.hid ho
    have HN := Lib.hid (HHS.out _ g ho)
    clear ho
    obtain ⟨gk, gL⟩ := g
    obtain ⟨gn, hgn⟩ : ∃ gn, gL.length = gn := ⟨_, rfl⟩
    have HGN := Lib.hid hgn
    simp only [hgn] at HN
    clear hgn
    go_enter Try.func12, Try.ntmps12
    go_upto_region 1 with fail
    rw [HW.out, HBE.out]
    go_wp2_with (first
      | (go_at_call 24; refine (HBIG.out _ _).mono ?_; rintro e wq ⟨rfl, hwq⟩; subst hwq; rw [tb])
      | (go_at_call 25; refine (HLIT.out _ _).mono ?_; rintro e wq ⟨rfl, hwq⟩; subst hwq; rw [tl])
      | (go_at_call 26; refine HN.out.mono ?_; rintro e w2 ⟨ha, hc, rfl, ⟨q0, q1, q2, q3, q4⟩, HTW⟩)
      | (go_at_call 14; refine (HTW.out _).mono ?_; rintro e w3 ⟨ta, tc, rfl, ⟨p0, p1, p2, p3, p4⟩, HFIN⟩))
    refine bodyPost_ret (v := .tuple #[.agg #[.int .i64 gk, .slice ta gn tc], .int .i64 0]) ?_ rfl ?_
    · rw [results_ct rfl]
      go_simp
    · rw [HO.out] at HG
      rw [HG.out]
      exact get_some HB.out.1 HB.out.2 HBE.out HFIN.out HGN.out
end Go.Proofs.Ytleidcegbfnmkaa.U
