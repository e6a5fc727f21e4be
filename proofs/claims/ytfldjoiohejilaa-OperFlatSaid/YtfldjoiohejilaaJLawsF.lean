/-
  The walk of OperFlat.
-/
import Derived.Test.YtfldjoiohejilaaJLaws1
import Derived.Test.YtfldjoiohejilaaJFlatP
namespace Go.Proofs.Ytfldjoiohejilaa.U
open Go.RowKit
set_option linter.unusedVariables false
set_option linter.unusedSimpArgs false
set_option maxRecDepth 100000

/-- two places in two boxes -/
structure TwS (w : World) (b b1 : Nat) (u v : Po) (W : World) : Prop where
  hb : Below w.heap.size w W
  p : W.heap[b]? = some (.cells #[.int .i64 u.l, .int .i64 u.c] 24 (0, 0))
  q : W.heap[b1]? = some (.cells #[.int .i64 v.l, .int .i64 v.c] 24 (0, 0))
theorem TwS.below {w W W' : World} {b b1 : Nat} {u v : Po} (h : TwS w b b1 u v W) (hb : Below W.heap.size W W') : TwS w b b1 u v W' := ⟨btr h.hb hb, hbox h.p hb, hbox h.q hb⟩
def TwC (b b1 : Nat) (u v : Po) (W : World) : Prop := W.cell? ⟨b, 0, none⟩ = some (.int .i64 u.l) ∧ W.cell? ⟨b, 1, none⟩ = some (.int .i64 u.c) ∧ W.frozen? ⟨b, 0, none⟩ = false ∧ W.frozen? ⟨b, 1, none⟩ = false ∧ b < W.heap.size ∧ W.cell? ⟨b1, 0, none⟩ = some (.int .i64 v.l) ∧ W.cell? ⟨b1, 1, none⟩ = some (.int .i64 v.c) ∧ W.frozen? ⟨b1, 0, none⟩ = false ∧ W.frozen? ⟨b1, 1, none⟩ = false ∧ b1 < W.heap.size
theorem TwS.cells {w W : World} {b b1 : Nat} {u v : Po} (h : TwS w b b1 u v W) : TwC b b1 u v W :=
  ⟨cell_row h.p 0, cell_row h.p 1, frozen_row h.p 0, frozen_row h.p 1, heap_lt h.p, cell_row h.q 0, cell_row h.q 1, frozen_row h.q 0, frozen_row h.q 1, heap_lt h.q⟩
theorem TwS.setP {w W : World} {b b1 : Nat} {u v : Po} (h : TwS w b b1 u v W) (hw : w.heap.size ≤ b) (hne : ¬ b1 = b) (z : Po) : TwS w b b1 z v ((W.setCell ⟨b, 0, none⟩ (.int .i64 z.l)).setCell ⟨b, 1, none⟩ (.int .i64 z.c)) := by
  have hf : Fr (fun k => k = b) W ((W.setCell ⟨b, 0, none⟩ (.int .i64 z.l)).setCell ⟨b, 1, none⟩ (.int .i64 z.c)) := ((Fr.refl (fun k => k = b) W).setCell ⟨b, 0, none⟩ _ (fun _ => rfl)).setCell ⟨b, 1, none⟩ _ (fun _ => rfl)
  exact ⟨setCell_below (setCell_below h.hb _ _ _ hw) _ _ _ hw, heap_set (heap_set h.p 0 _) 1 _, (hf.block _ (heap_lt h.q) hne).trans h.q⟩
theorem TwS.setQ {w W : World} {b b1 : Nat} {u v : Po} (h : TwS w b b1 u v W) (hw : w.heap.size ≤ b1) (hne : ¬ b = b1) (z : Po) : TwS w b b1 u z ((W.setCell ⟨b1, 0, none⟩ (.int .i64 z.l)).setCell ⟨b1, 1, none⟩ (.int .i64 z.c)) := by
  have hf : Fr (fun k => k = b1) W ((W.setCell ⟨b1, 0, none⟩ (.int .i64 z.l)).setCell ⟨b1, 1, none⟩ (.int .i64 z.c)) := ((Fr.refl (fun k => k = b1) W).setCell ⟨b1, 0, none⟩ _ (fun _ => rfl)).setCell ⟨b1, 1, none⟩ _ (fun _ => rfl)
  exact ⟨setCell_below (setCell_below h.hb _ _ _ hw) _ _ _ hw, (hf.block _ (heap_lt h.p) hne).trans h.p, heap_set (heap_set h.q 0 _) 1 _⟩
/-- what is known behind Cut: the places, what was taken, what is left -/
structure FlS (w : World) (b b1 : Nat) (u v : Po) (ga : Option Addr) (gm gc : Nat) (G : List (List Int)) (ca : Option Addr) (cm cc : Nat) (M : List (List Int)) (gb : Nat) (W : World) : Prop where
  tw : TwS w b b1 u v W
  g : RdL (fun k => b1 < k) W ga gm gc G
  m : RdL (fun k => b1 < k) W ca cm cc M
  r : W.heap[gb]? = some (.cells #[.int .i64 0, .slice ga gm gc] 30 (0, 0))
  gt : b1 < gb
theorem FlS.below {w W W' : World} {b b1 : Nat} {u v : Po} {ga ca : Option Addr} {gm gc cm cc gb : Nat} {G M : List (List Int)} (h : FlS w b b1 u v ga gm gc G ca cm cc M gb W) (hb : Below W.heap.size W W') : FlS w b b1 u v ga gm gc G ca cm cc M gb W' :=
  ⟨h.tw.below hb, h.g.below hb, h.m.below hb, hbox h.r hb, h.gt⟩
theorem FlS.set {w W : World} {b b1 : Nat} {u v : Po} {ga ca : Option Addr} {gm gc cm cc gb : Nat} {G M : List (List Int)} (h : FlS w b b1 u v ga gm gc G ca cm cc M gb W) (hw : w.heap.size ≤ b) (hlt : b < b1) (z y : Po) :
    FlS w b b1 z y ga gm gc G ca cm cc M gb ((((W.setCell ⟨b, 0, none⟩ (.int .i64 z.l)).setCell ⟨b, 1, none⟩ (.int .i64 z.c)).setCell ⟨b1, 0, none⟩ (.int .i64 y.l)).setCell ⟨b1, 1, none⟩ (.int .i64 y.c)) := by
  have hf : Fr (fun k => k = b ∨ k = b1) W ((((W.setCell ⟨b, 0, none⟩ (.int .i64 z.l)).setCell ⟨b, 1, none⟩ (.int .i64 z.c)).setCell ⟨b1, 0, none⟩ (.int .i64 y.l)).setCell ⟨b1, 1, none⟩ (.int .i64 y.c)) := ((((Fr.refl (fun k => k = b ∨ k = b1) W).setCell ⟨b, 0, none⟩ _ (fun _ => .inl rfl)).setCell ⟨b, 1, none⟩ _ (fun _ => .inl rfl)).setCell ⟨b1, 0, none⟩ _ (fun _ => .inr rfl)).setCell ⟨b1, 1, none⟩ _ (fun _ => .inr rfl)
  have hgt := h.gt
  exact ⟨(h.tw.setP hw (by omega) z).setQ (by omega) (by omega) y, h.g.frF hf (fun k hk e => by omega), h.m.frF hf (fun k hk e => by omega), (hf.block _ (heap_lt h.r) (by omega)).trans h.r, hgt⟩
theorem joinL_wfF {L : List (List Int)} (h : ∀ x ∈ L, ∀ y ∈ x, (Lit.int .i32 y).wf = true) : ∀ y ∈ joinL L, (Lit.int .i32 y).wf = true := by
  intro y hy
  unfold joinL at hy
  have h2 : y ∈ joinE L := List.dropLast_subset _ hy
  unfold joinE at h2
  obtain ⟨x, hx, hy2⟩ := List.mem_flatMap.1 h2
  rcases List.mem_append.1 hy2 with h3 | h3
  · exact h x hx y h3
  · simp at h3; subst h3; decide
theorem takeR_wfF {L : List (List Int)} (h : ∀ x ∈ L, ∀ y ∈ x, (Lit.int .i32 y).wf = true) (r : Rgn) : ∀ x ∈ (takeR L r).1.2, ∀ y ∈ x, (Lit.int .i32 y).wf = true := by
  intro x hx
  unfold takeR at hx
  split at hx
  · unfold takeL insL at hx
    obtain ⟨j, -, rfl⟩ := List.mem_map.1 hx
    unfold inL partIn
    refine wf_part ?_ _
    intro y hy
    unfold lnL at hy
    rw [List.getD_eq_getElem?_getD] at hy
    cases hi : L[(endsR (clipZ L r.f) (clipZ L r.t)).1.1 + j]? with
    | none => rw [hi] at hy; simp at hy
    | some z => rw [hi] at hy; exact h z (List.mem_of_getElem? hi) y hy
  · simp at hx
theorem flat_told {L : List (List Int)} {p q : Pl} (hp : okP L p) (hq : okP L q) : takeR L ⟨upP p, upP q, 0⟩ = ((0, takeL L p q 0), 0) ∧ (cutR L ⟨upP p, upP q, 0⟩).1 = cutL L p q 0 ∧ (cutR L ⟨upP p, upP q, 0⟩).2.2 = 0 := by
  obtain ⟨h1, h2, h3⟩ := there_up (k := 0) hp hq (by decide) (by decide)
  constructor
  · unfold takeR
    rw [if_pos h1]
    show ((0, takeL L (clipZ L (upP p)) (clipZ L (upP q)) 0), (0 : Int)) = _
    rw [h2, h3]
  · unfold cutR
    rw [if_pos h1]
    show cutM L (clipZ L (upP p)) (clipZ L (upP q)) 0 = _ ∧ (0 : Int) = 0
    rw [h2, h3]
    refine ⟨?_, rfl⟩
    unfold cutM
    rw [if_neg (by rintro ⟨e, -⟩; exact absurd e (by decide))]
theorem flat_ord {L : List (List Int)} {p q : Pl} (hp : okP L p) (hq : okP L q) : offN L (endsR p q).1.1 (endsR p q).1.2 ≤ endN L (endsR p q).2 ∧ endN L (endsR p q).2 ≤ (joinL L).length := by
  obtain ⟨hA, hB⟩ := endsR_ok hp hq
  have hle := endsR_le p q
  have hord := endsR_ord p q
  obtain ⟨⟨⟨a1, a2⟩, ⟨b1, b2⟩⟩, hE⟩ : ∃ E, endsR p q = E := ⟨_, rfl⟩
  rw [hE] at hA hB hle hord ⊢
  simp only at hle hord ⊢
  obtain ⟨hA1, hA2⟩ := hA
  obtain ⟨hB1, hB2⟩ := hB
  simp only at hA1 hA2 hB1 hB2
  have hm := end_min hB2
  unfold endN
  simp only
  have h2 := off_le (lnL_get hB1) (Nat.min_le_left (lnL L b1).length (b2 + 1))
  rw [hm] at h2
  constructor
  · unfold offN
    by_cases hab : a1 = b1
    · have := hord hab
      rw [hab]
      omega
    · have h3 := size_take (lnL_get hA1)
      have h4 := size_take_le (L.take b1) (a1 + 1)
      rw [List.take_take, Nat.min_eq_left (by omega)] at h4
      rw [← lens_take, ← lens_take]
      omega
  · unfold offN
    omega
set_option maxHeartbeats 16000000 in
theorem operFlat_wideP (HP : PasteK 22) (a : Option Addr) (n c : Nat) (L : List (List Int)) (p q : Po) (w : World) (h : RdL (fun k => k < w.heap.size) w a n c L) (hw : WideL L) (hp : i64p p) (hq : i64p q) :
    Calls Try.prog 9 #[.slice a n c, p.v, q.v] w fun e w' => e = .returned (.bool true) ∧ Below w.heap.size w w' := by
  obtain ⟨wb, hwb⟩ : ∃ wb, (w.alloc (.cells #[.int .i64 p.l, .int .i64 p.c] 24)).alloc (.cells #[.int .i64 q.l, .int .i64 q.c] 24) = wb := ⟨_, rfl⟩
  obtain ⟨g1, g2⟩ := two_new w #[.int .i64 p.l, .int .i64 p.c] #[.int .i64 q.l, .int .i64 q.c] 24 24 _ (Below.refl _ _)
  rw [hwb] at g1 g2
  have hB : Below w.heap.size w wb := by rw [← hwb]; exact ((Below.refl _ _).alloc (Nat.le_refl _) _).alloc (by simp) _
  obtain ⟨b, hbe⟩ : ∃ b, w.heap.size = b := ⟨_, rfl⟩
  obtain ⟨b1, hb1⟩ : ∃ b1, b + 1 = b1 := ⟨_, rfl⟩
  rw [hbe] at g1 g2
  rw [hb1] at g2
  have hT0 : TwS w b b1 p q wb := ⟨hB, g1, g2⟩
  have hfit := fit_any _ a n c L wb (h.below hB) hw
  have hl := h.len
  have HB := Lib.hid hB
  have HW := Lib.hid hwb
  have HBE := Lib.hid hbe
  have HB1 := Lib.hid hb1
  have HPP := Lib.hid HP
  have HAW : Hid (∀ W, Hid (Below w.heap.size w W) → Calls Try.prog 17 #[] W fun e w' => e = .returned (.bool true) ∧ Hid (Below w.heap.size w w')) := by
    intro W hW
    refine (awake_any HPP.out W).mono ?_
    rintro e w' ⟨rfl, hb⟩
    exact ⟨rfl, btr hW.out hb⟩
  obtain ⟨x0, x1, z0, z1, xl, y0, y1, t0, t1, yl⟩ := hT0.cells
  show Calls Try.prog _ #[_, .agg #[.int .i64 p.l, .int .i64 p.c], .agg #[.int .i64 q.l, .int .i64 q.c]] w _
  by_cases hF : fitL L = true
  · rw [hF] at hfit
    have HFIT : Hid (∀ W, W = wb → Calls Try.prog 11 #[.slice a n c] W fun e w' => e = .returned (.bool true) ∧ W = w') := by
      rintro W rfl
      exact hfit.mono fun e w' h => ⟨h.1, h.2.symm⟩
    obtain ⟨hs, hpl⟩ := fit_small hF
    by_cases hn0 : n = 0
    · subst hn0
      have H7 : Hid (Below w.heap.size w wb) := HB.out
      clear hs hpl hF hfit h hw hp hq hT0 g1 g2 hB hwb hbe hb1 HP hl
      go_enter Try.func9, Try.ntmps9
      go_upto_region 1 with fail
      rw [HW.out, HBE.out, HB1.out]
      go_wp2_with (first
        | (go_at_call 11; (with_reducible refine (HFIT.out _ rfl).mono ?_); rintro e wq ⟨rfl, hwq⟩; subst hwq)
        | (go_at_call 17; (with_reducible refine (HAW.out _ H7).mono ?_); rintro e w8 ⟨rfl, H8⟩))
      go_ret
      exact ⟨rfl, H8.out⟩
    · have hcnt := size_count L
      have hL0 : L ≠ [] := by intro e; rw [e] at hl; simp at hl; omega
      have hp0 := clipP_ok hL0 p.l p.c
      have hq0 := clipP_ok hL0 q.l q.c
      have hcp := fun (W : World) (hW : Below w.heap.size w W) => rclip_any _ a n c L p W (h.below hW) hp
      have hcq := fun (W : World) (hW : Below w.heap.size w W) => rclip_any _ a n c L q W (h.below hW) hq
      obtain ⟨⟨P1, P2⟩, hPP⟩ : ∃ P, clipP L p.l p.c = P := ⟨_, rfl⟩
      obtain ⟨⟨Q1, Q2⟩, hQQ⟩ : ∃ P, clipP L q.l q.c = P := ⟨_, rfl⟩
      rw [hPP] at hp0 hcp
      rw [hQQ] at hq0 hcq
      have hb01 : ¬ b1 = b := by omega
      have hb10 : ¬ b = b1 := by omega
      have HCP : Hid (∀ W u v, Hid (TwS w b b1 u v W) → Calls Try.prog 32 #[.slice a n c, .agg #[.int .i64 p.l, .int .i64 p.c]] W fun e w' => e = .returned (.agg #[.int .i64 (P1 : Nat), .int .i64 (P2 : Nat)]) ∧ TwC b b1 u v w' ∧ Hid (TwS w b b1 u v w')) := by
        intro W u v hW
        refine (hcp W hW.out.hb).mono ?_
        rintro e w' ⟨rfl, hb⟩
        exact ⟨rfl, (hW.out.below hb).cells, hW.out.below hb⟩
      have HCQ : Hid (∀ W u v, Hid (TwS w b b1 u v W) → Calls Try.prog 32 #[.slice a n c, .agg #[.int .i64 q.l, .int .i64 q.c]] W fun e w' => e = .returned (.agg #[.int .i64 (Q1 : Nat), .int .i64 (Q2 : Nat)]) ∧ TwC b b1 u v w' ∧ Hid (TwS w b b1 u v w')) := by
        intro W u v hW
        refine (hcq W hW.out.hb).mono ?_
        rintro e w' ⟨rfl, hb⟩
        exact ⟨rfl, (hW.out.below hb).cells, hW.out.below hb⟩
      have hs1 : sizeN (lens L) ≤ 1048576 := by omega
      obtain ⟨hpi1, hpi2⟩ := i64_okP h hs1 hp0
      obtain ⟨hqi1, hqi2⟩ := i64_okP h hs1 hq0
      obtain ⟨htk, hM1, hM2⟩ := flat_told hp0 hq0
      obtain ⟨hf1, hf2⟩ := flat_both hp0 hq0
      obtain ⟨hod1, hod2⟩ := flat_ord hp0 hq0
      obtain ⟨hea, heb⟩ := endsR_ok hp0 hq0
      have heo : endsR (P1, P2) (Q1, Q2) = if aheadP (Q1, Q2) (P1, P2) then ((Q1, Q2), (P1, P2)) else ((P1, P2), (Q1, Q2)) := rfl
      obtain ⟨⟨⟨A1, A2⟩, ⟨B1, B2⟩⟩, hEE⟩ : ∃ E, endsR (P1, P2) (Q1, Q2) = E := ⟨_, rfl⟩
      rw [hEE] at hf1 hf2 hea heb heo hod1 hod2
      simp only at hf1 hf2 hod1 hod2
      obtain ⟨hai1, hai2⟩ := i64_okP h hs1 hea
      obtain ⟨hbi1, hbi2⟩ := i64_okP h hs1 heb
      simp only at hpi1 hpi2 hqi1 hqi2 hai1 hai2 hbi1 hbi2
      obtain ⟨R, hRe⟩ : ∃ R : Rgn, R = ⟨upP (P1, P2), upP (Q1, Q2), 0⟩ := ⟨_, rfl⟩
      rw [← hRe] at htk hM1 hM2
      have hRv : R.v = .agg #[.int .i64 (P1 : Nat), .int .i64 (P2 : Nat), .int .i64 (Q1 : Nat), .int .i64 (Q2 : Nat), .int .i64 0] := by rw [hRe]; rfl
      have hri : i64r R := by rw [hRe]; unfold i64r i64p i64b upP; simp only; omega
      obtain ⟨G, hG⟩ : ∃ G, takeL L (P1, P2) (Q1, Q2) 0 = G := ⟨_, rfl⟩
      obtain ⟨⟨M, ⟨m1, m2⟩, m3⟩, hM⟩ : ∃ M, cutR L R = M := ⟨_, rfl⟩
      rw [hM] at hM1 hM2
      simp only at hM1 hM2
      subst hM2
      rw [← hM1] at hf2
      rw [hG] at hf1 htk
      obtain ⟨X, hX⟩ : ∃ X, joinL L = X := ⟨_, rfl⟩
      obtain ⟨oa, hoa⟩ : ∃ o, offN L A1 A2 = o := ⟨_, rfl⟩
      obtain ⟨oe, hoe⟩ : ∃ o, endN L (B1, B2) = o := ⟨_, rfl⟩
      rw [hX, hoa, hoe] at hf1 hf2
      rw [hoa, hoe] at hod1
      rw [hX, hoe] at hod2
      have hXs : X.length ≤ 65536 := by have := joinL_len hL0; rw [hX] at this; omega
      obtain ⟨XL, hXL⟩ : ∃ XL, X.length = XL := ⟨_, rfl⟩
      rw [hXL] at hod2 hXs
      have hGsz : sizeN (lens G) ≤ 1048576 := by
        have h1 := congrArg List.length hf1
        rw [List.length_drop, List.length_take] at h1
        by_cases hGe : G = []
        · rw [hGe]; simp [lens, sizeN]
        · have := joinL_len hGe; omega
      have hMsz : sizeN (lens M) ≤ 1048576 := by
        have h1 := congrArg List.length hf2
        rw [List.length_append, List.length_drop, List.length_take] at h1
        by_cases hGe : M = []
        · rw [hGe]; simp [lens, sizeN]
        · have := joinL_len hGe; omega
      have hwf := lines_wf (rdl_wf h)
      have hGwf : ∀ x ∈ G, ∀ y ∈ x, (Lit.int .i32 y).wf = true := by
        have := takeR_wfF hwf R
        rw [htk] at this
        exact this
      obtain ⟨lb, lo, rfl, hlb, -, hrow⟩ := h.at_ (by omega)
      obtain ⟨ya, yc, hcy, hry, -⟩ := hrow B1 _ (lnL_get heb.1)
      obtain ⟨ym, hyl⟩ : ∃ ym, (lnL L B1).length = ym := ⟨_, rfl⟩
      rw [hyl] at hcy
      have hB1n : B1 < n := by have := heb.1; simp only at this; omega
      have hyl6 : ym ≤ 65536 := by
        have := sizeN_mem (List.mem_map.2 ⟨_, List.mem_of_getElem? (lnL_get heb.1), rfl⟩ : List.length (lnL L B1) ∈ List.map List.length L)
        unfold lens at hs
        rw [hyl] at this
        omega
      obtain ⟨ah, hah⟩ : ∃ ah, aheadP (Q1, Q2) (P1, P2) = ah := ⟨_, rfl⟩
      rw [hah] at heo
      have HT : Hid (∀ W rb, Hid (TwS w b b1 ⟨(P1 : Nat), (P2 : Nat)⟩ ⟨(Q1 : Nat), (Q2 : Nat)⟩ W ∧ W.heap[rb]? = some (.cells #[.int .i64 (P1 : Nat), .int .i64 (P2 : Nat), .int .i64 (Q1 : Nat), .int .i64 (Q2 : Nat), .int .i64 0] 26 (0, 0))) → Calls Try.prog 13 #[.slice (some ⟨lb, lo, none⟩) n c, .agg #[.int .i64 (P1 : Nat), .int .i64 (P2 : Nat), .int .i64 (Q1 : Nat), .int .i64 (Q2 : Nat), .int .i64 0]] W fun e w' => ∃ ga gm gc, e = .returned (.tuple #[.agg #[.int .i64 0, .slice ga gm gc], .int .i64 0]) ∧ ∃ w5 gb, w'.alloc (.cells #[.int .i64 0, .slice ga gm gc] 30) = w5 ∧ w'.heap.size = gb ∧ (w5.cell? ⟨rb, 0, none⟩ = some (.int .i64 (P1 : Nat)) ∧ w5.cell? ⟨rb, 1, none⟩ = some (.int .i64 (P2 : Nat)) ∧ w5.cell? ⟨rb, 2, none⟩ = some (.int .i64 (Q1 : Nat)) ∧ w5.cell? ⟨rb, 3, none⟩ = some (.int .i64 (Q2 : Nat)) ∧ w5.cell? ⟨rb, 4, none⟩ = some (.int .i64 0)) ∧ Hid (TwS w b b1 ⟨(P1 : Nat), (P2 : Nat)⟩ ⟨(Q1 : Nat), (Q2 : Nat)⟩ w5 ∧ RdL (fun k => b1 < k) w5 ga gm gc G ∧ w5.heap[gb]? = some (.cells #[.int .i64 0, .slice ga gm gc] 30 (0, 0)) ∧ b1 < gb)) := by
        intro W rb hW
        have hbW := hW.out.1.hb
        have hlt := heap_lt hW.out.1.q
        have hK := ktakeC _ _ n c L R W (h.below hbW) hs1 hri
        rw [hRv] at hK
        refine hK.mono ?_
        rintro e w' ⟨ga, gm, gc, rfl, hf, hb⟩
        rw [htk] at hf ⊢
        have hb2 := btr hb (bal w' (.cells #[.int .i64 0, .slice ga gm gc] 30))
        have e1 := hbox hW.out.2 hb2
        have hsz := hb.size
        exact ⟨ga, gm, gc, rfl, _, _, rfl, rfl, ⟨cell_row e1 0, cell_row e1 1, cell_row e1 2, cell_row e1 3, cell_row e1 4⟩, hW.out.1.below hb2, ((hf.rdl hGwf).mono (fun k hk => by omega)).below (bal _ _), heap_alloc_new _ _, by omega⟩
      have HC : Hid (∀ (W : World) (ga : Option Addr) (gm gc gb : Nat), Hid (TwS w b b1 ⟨(P1 : Nat), (P2 : Nat)⟩ ⟨(Q1 : Nat), (Q2 : Nat)⟩ W ∧ RdL (fun k => b1 < k) W ga gm gc G ∧ W.heap[gb]? = some (.cells #[.int .i64 0, .slice ga gm gc] 30 (0, 0)) ∧ b1 < gb) → Calls Try.prog 18 #[.slice (some ⟨lb, lo, none⟩) n c, .agg #[.int .i64 (P1 : Nat), .int .i64 (P2 : Nat), .int .i64 (Q1 : Nat), .int .i64 (Q2 : Nat), .int .i64 0]] W fun e w' => ∃ ca cm cc, e = .returned (.tuple #[.slice ca cm cc, .agg #[.int .i64 (m1 : Nat), .int .i64 (m2 : Nat)], .int .i64 0]) ∧ ∃ w7 pb, w'.alloc (.cells #[.int .i64 (m1 : Nat), .int .i64 (m2 : Nat)] 24) = w7 ∧ w'.heap.size = pb ∧ TwC b b1 ⟨(P1 : Nat), (P2 : Nat)⟩ ⟨(Q1 : Nat), (Q2 : Nat)⟩ w7 ∧ Hid (FlS w b b1 ⟨(P1 : Nat), (P2 : Nat)⟩ ⟨(Q1 : Nat), (Q2 : Nat)⟩ ga gm gc G ca cm cc M gb w7)) := by
        intro W ga gm gc gb hW
        obtain ⟨h1, h2, h3, h4⟩ := hW.out
        have hlt := heap_lt h1.q
        have hK := kcutK _ _ n c L R W (h.below h1.hb) hs hri
        rw [hRv] at hK
        refine hK.mono ?_
        rintro e w' ⟨ca, cm, cc, rfl, hf, hb⟩
        rw [hM] at hf ⊢
        have hb2 := btr hb (bal w' (.cells #[.int .i64 (m1 : Nat), .int .i64 (m2 : Nat)] 24))
        exact ⟨ca, cm, cc, rfl, _, _, rfl, rfl, (h1.below hb2).cells, h1.below hb2, h2.below hb2, (hf.mono (fun k hk => by omega)).below (bal _ _), hbox h3 hb2, h4⟩
      have HAH : Hid (∀ (W : World) (ga : Option Addr) (gm gc : Nat) (ca : Option Addr) (cm cc gb : Nat), Hid (FlS w b b1 ⟨(P1 : Nat), (P2 : Nat)⟩ ⟨(Q1 : Nat), (Q2 : Nat)⟩ ga gm gc G ca cm cc M gb W) → Calls Try.prog 33 #[.agg #[.int .i64 (Q1 : Nat), .int .i64 (Q2 : Nat)], .agg #[.int .i64 (P1 : Nat), .int .i64 (P2 : Nat)]] W fun e w' => e = .returned (.bool ah) ∧ TwC b b1 ⟨(P1 : Nat), (P2 : Nat)⟩ ⟨(Q1 : Nat), (Q2 : Nat)⟩ w' ∧ Hid (FlS w b b1 ⟨(P1 : Nat), (P2 : Nat)⟩ ⟨(Q1 : Nat), (Q2 : Nat)⟩ ga gm gc G ca cm cc M gb w')) := by
        intro W ga gm gc ca cm cc gb hW
        refine (rahead_any (Q1, Q2) (P1, P2) W).mono ?_
        rintro e w' ⟨rfl, hb⟩
        exact ⟨by rw [hah], (hW.out.below hb).tw.cells, hW.out.below hb⟩
      have HO1 : Hid (∀ (W : World) (ga : Option Addr) (gm gc : Nat) (ca : Option Addr) (cm cc gb tb : Nat), Hid (FlS w b b1 ⟨(A1 : Nat), (A2 : Nat)⟩ ⟨(B1 : Nat), (B2 : Nat)⟩ ga gm gc G ca cm cc M gb W ∧ W.heap[tb]? = some (.cells #[.slice (some ⟨lb, lo, none⟩) n c] 60 (0, 0)) ∧ w.heap.size ≤ tb) → Calls Try.prog 34 #[.pointer (some ⟨tb, 0, none⟩), .agg #[.int .i64 (A1 : Nat), .int .i64 (A2 : Nat)]] W fun e w' => e = .returned (.tuple #[.int .i64 (oa : Nat), .int .i64 0]) ∧ TwC b b1 ⟨(A1 : Nat), (A2 : Nat)⟩ ⟨(B1 : Nat), (B2 : Nat)⟩ w' ∧ Hid (FlS w b b1 ⟨(A1 : Nat), (A2 : Nat)⟩ ⟨(B1 : Nat), (B2 : Nat)⟩ ga gm gc G ca cm cc M gb w' ∧ w'.heap[tb]? = some (.cells #[.slice (some ⟨lb, lo, none⟩) n c] 60 (0, 0)) ∧ w.heap.size ≤ tb)) := by
        intro W ga gm gc ca cm cc gb tb hW
        obtain ⟨h1, h2, h3⟩ := hW.out
        refine (roffset_any (fun _ => True) tb L (A1 : Nat) (A2 : Nat) W ⟨_, n, c, h2, (h.below h1.tw.hb).mono (fun k hk => ⟨trivial, by omega⟩), trivial⟩ hs1 ⟨by omega, by omega⟩ ⟨by omega, by omega⟩).mono ?_
        rintro e w' ⟨rfl, hb⟩
        have hh : hasP L (A1 : Nat) (A2 : Nat) = true := hasP_iff.2 ⟨A1, A2, _, rfl, rfl, lnL_get hea.1, by have := hea.2; simp only at this; omega⟩
        refine ⟨?_, (h1.below hb).tw.cells, h1.below hb, hbox h2 hb, h3⟩
        unfold offR
        rw [if_pos hh, Int.toNat_natCast, Int.toNat_natCast, hoa]
      obtain ⟨ob, hob⟩ : ∃ o, offN L B1 B2 = o := ⟨_, rfl⟩
      have hobe : ob + (if ym = 0 then 0 else 1) = oe := by
        rw [← hob, ← hoe, ← hyl]
        unfold endN
        simp only [List.length_eq_zero_iff]
      have HO2 : Hid (∀ (W : World) (ga : Option Addr) (gm gc : Nat) (ca : Option Addr) (cm cc gb tb : Nat), Hid (FlS w b b1 ⟨(A1 : Nat), (A2 : Nat)⟩ ⟨(B1 : Nat), (B2 : Nat)⟩ ga gm gc G ca cm cc M gb W ∧ W.heap[tb]? = some (.cells #[.slice (some ⟨lb, lo, none⟩) n c] 60 (0, 0)) ∧ w.heap.size ≤ tb) → Calls Try.prog 34 #[.pointer (some ⟨tb, 0, none⟩), .agg #[.int .i64 (B1 : Nat), .int .i64 (B2 : Nat)]] W fun e w' => e = .returned (.tuple #[.int .i64 (ob : Nat), .int .i64 0]) ∧ TwC b b1 ⟨(A1 : Nat), (A2 : Nat)⟩ ⟨(B1 : Nat), (B2 : Nat)⟩ w' ∧ w'.cell? ⟨lb, lo + B1, none⟩ = some (.slice ya ym yc) ∧ Hid (FlS w b b1 ⟨(A1 : Nat), (A2 : Nat)⟩ ⟨(B1 : Nat), (B2 : Nat)⟩ ga gm gc G ca cm cc M gb w')) := by
        intro W ga gm gc ca cm cc gb tb hW
        obtain ⟨h1, h2, h3⟩ := hW.out
        refine (roffset_any (fun _ => True) tb L (B1 : Nat) (B2 : Nat) W ⟨_, n, c, h2, (h.below h1.tw.hb).mono (fun k hk => ⟨trivial, by omega⟩), trivial⟩ hs1 ⟨by omega, by omega⟩ ⟨by omega, by omega⟩).mono ?_
        rintro e w' ⟨rfl, hb⟩
        have hh : hasP L (B1 : Nat) (B2 : Nat) = true := hasP_iff.2 ⟨B1, B2, _, rfl, rfl, lnL_get heb.1, by have := heb.2; simp only at this; omega⟩
        refine ⟨?_, (h1.below hb).tw.cells, ((btr h1.tw.hb hb).cell (p := ⟨lb, lo + B1, none⟩) hlb).trans hcy, h1.below hb⟩
        unfold offR
        rw [if_pos hh, Int.toNat_natCast, Int.toNat_natCast, hob]
      have HJ0 : Hid (∀ (W : World) (ga : Option Addr) (gm gc : Nat) (ca : Option Addr) (cm cc gb : Nat), Hid (FlS w b b1 ⟨(A1 : Nat), (A2 : Nat)⟩ ⟨(B1 : Nat), (B2 : Nat)⟩ ga gm gc G ca cm cc M gb W) → Calls Try.prog 35 #[.slice (some ⟨lb, lo, none⟩) n c] W fun e w' => ∃ xa xc, e = .returned (.slice xa XL xc) ∧ Hid (FlS w b b1 ⟨(A1 : Nat), (A2 : Nat)⟩ ⟨(B1 : Nat), (B2 : Nat)⟩ ga gm gc G ca cm cc M gb w' ∧ Rd .i32 w' xa XL xc X)) := by
        intro W ga gm gc ca cm cc gb hW
        refine (rjoined_any _ _ n c L W (h.below hW.out.tw.hb) hs1).mono ?_
        rintro e w' ⟨xa, xc, rfl, ho, hb⟩
        rw [hX, hXL] at ho ⊢
        refine ⟨xa, xc, rfl, hW.out.below hb, own_rd ho ?_⟩
        rw [← hX]
        exact joinL_wfF hwf
      obtain ⟨rl, hrl⟩ : ∃ d, oa + (XL - oe) = d := ⟨_, rfl⟩
      have HAPP : Hid (∀ W xa xc W1, W1 = (W.alloc (.cells #[] 21)).drew → Rd .i32 W xa XL xc X → ∃ r1 d1 w1 r2 d2 w2, (∀ ty, (Builtin.append_ #[35, 35] ty #[.slice (some ⟨W.heap.size, 0, none⟩) 0 0, .slice xa oa xc]).run Try.prog W1 = .ok (.slice r1 oa d1) w1) ∧ (∀ ty, (Builtin.append_ #[35, 35] ty #[.slice r1 oa d1, .slice (if xc = oe then xa else xa.map (·.add (oe * 1))) (XL - oe) (xc - oe)]).run Try.prog w1 = .ok (.slice r2 rl d2) w2) ∧ Below W.heap.size W w2 ∧ Rd .i32 w2 r2 rl d2 (X.take oa ++ X.drop oe)) := by
        rintro W xa xc W1 rfl hx
        have hb0 : Below W.heap.size W (W.alloc (.cells #[] 21)).drew := (bal W _).drew
        have hol : (W.alloc (.cells #[] 21)).drew.ownsRow W.heap.size 21 1 (.slice (some ⟨W.heap.size, 0, none⟩) 0 0) 0 (ints []) := own_fr (World.ownsRow_lit W #[] 0 (Nat.le_refl _) (Nat.zero_le _) rfl) (Fr.of_below (fun _ => False) (Below.refl _ _).drew) (fun _ _ h => h)
        obtain ⟨r1, d1, w1, h1, h2, h3⟩ := app_rd (W.alloc (.cells #[] 21)).drew W.heap.size _ 0 [] xa oa xc (X.take oa) hol hb0.size ((hx.take oa (by omega)).below hb0) (by omega)
        rw [Nat.zero_add] at h1 h2
        rw [List.nil_append] at h2
        have hb1 := hb0.trans h3
        have hdr := (hx.below hb1).drop oe hod2
        obtain ⟨r2, d2, w2, h4, h5, h6⟩ := app_rd w1 W.heap.size _ oa (X.take oa) _ (XL - oe) (xc - oe) (X.drop oe) h2 hb1.size hdr (by omega)
        rw [hrl] at h4 h5
        refine ⟨r1, d1, w1, r2, d2, w2, h1, h4, hb1.trans h6, own_rd h5 ?_⟩
        intro y hy
        rcases List.mem_append.1 hy with h9 | h9
        · exact hx.2.2.2.1 y (List.mem_of_mem_take h9)
        · exact hx.2.2.2.1 y (List.mem_of_mem_drop h9)
      have HRL := Lib.hid hrl
      have HJG : Hid (∀ (W : World) (ga : Option Addr) (gm gc : Nat) (ca : Option Addr) (cm cc gb : Nat) (xa : Option Addr) (xc : Nat) (ra : Option Addr) (rc : Nat), Hid (FlS w b b1 ⟨(A1 : Nat), (A2 : Nat)⟩ ⟨(B1 : Nat), (B2 : Nat)⟩ ga gm gc G ca cm cc M gb W ∧ Rd .i32 W xa XL xc X ∧ Rd .i32 W ra rl rc (X.take oa ++ X.drop oe)) → Calls Try.prog 35 #[.slice ga gm gc] W fun e w' => ∃ ja jn jc, e = .returned (.slice ja jn jc) ∧ w'.cell? ⟨gb, 1, none⟩ = some (.slice ga gm gc) ∧ Hid (FlS w b b1 ⟨(A1 : Nat), (A2 : Nat)⟩ ⟨(B1 : Nat), (B2 : Nat)⟩ ga gm gc G ca cm cc M gb w' ∧ Rd .i32 w' xa XL xc X ∧ Rd .i32 w' ra rl rc (X.take oa ++ X.drop oe)) ∧ Hid (Rd .i32 w' ja jn jc (joinL G))) := by
        intro W ga gm gc ca cm cc gb xa xc ra rc hW
        obtain ⟨h1, h2, h3⟩ := hW.out
        refine (rjoined_any _ _ gm gc G W h1.g hGsz).mono ?_
        rintro e w' ⟨ja, jc, rfl, ho, hb⟩
        exact ⟨ja, _, jc, rfl, cell_row (h1.below hb).r 1, ⟨h1.below hb, h2.below hb, h3.below hb⟩, own_rd ho (joinL_wfF hGwf)⟩
      have HRG : Hid (∀ (W : World) (ga : Option Addr) (gm gc : Nat) (ca : Option Addr) (cm cc gb : Nat) (xa : Option Addr) (xc : Nat) (ra : Option Addr) (rc : Nat) (ja : Option Addr) (jn jc : Nat) (xb : Option Addr), (xb = if xc = oa then xa else xa.map (·.add (oa * 1))) → Hid (FlS w b b1 ⟨(A1 : Nat), (A2 : Nat)⟩ ⟨(B1 : Nat), (B2 : Nat)⟩ ga gm gc G ca cm cc M gb W ∧ Rd .i32 W xa XL xc X ∧ Rd .i32 W ra rl rc (X.take oa ++ X.drop oe)) → Hid (Rd .i32 W ja jn jc (joinL G)) → Calls Try.prog 36 #[.slice ja jn jc, .slice xb (oe - oa) (xc - oa)] W fun e w' => e = .returned (.bool true) ∧ w'.cell? ⟨gb, 1, none⟩ = some (.slice ga gm gc) ∧ Hid (FlS w b b1 ⟨(A1 : Nat), (A2 : Nat)⟩ ⟨(B1 : Nat), (B2 : Nat)⟩ ga gm gc G ca cm cc M gb w' ∧ Rd .i32 w' ra rl rc (X.take oa ++ X.drop oe))) := by
        rintro W ga gm gc ca cm cc gb xa xc ra rc ja jn jc xb rfl hW hJ
        obtain ⟨h1, h2, h3⟩ := hW.out
        have hx2 := (h2.take oe hod2).drop oa hod1
        refine (runes_any ja _ jn (oe - oa) jc (xc - oa) _ _ W hJ.out hx2).mono ?_
        rintro e w' ⟨rfl, hb⟩
        exact ⟨by rw [decide_eq_true hf1], cell_row (h1.below hb).r 1, h1.below hb, h3.below hb⟩
      have HJM : Hid (∀ (W : World) (ga : Option Addr) (gm gc : Nat) (ca : Option Addr) (cm cc gb : Nat) (ra : Option Addr) (rc : Nat), Hid (FlS w b b1 ⟨(A1 : Nat), (A2 : Nat)⟩ ⟨(B1 : Nat), (B2 : Nat)⟩ ga gm gc G ca cm cc M gb W ∧ Rd .i32 W ra rl rc (X.take oa ++ X.drop oe)) → Calls Try.prog 35 #[.slice ca cm cc] W fun e w' => ∃ ja jn jc, e = .returned (.slice ja jn jc) ∧ w'.cell? ⟨gb, 1, none⟩ = some (.slice ga gm gc) ∧ Hid (FlS w b b1 ⟨(A1 : Nat), (A2 : Nat)⟩ ⟨(B1 : Nat), (B2 : Nat)⟩ ga gm gc G ca cm cc M gb w' ∧ Rd .i32 w' ra rl rc (X.take oa ++ X.drop oe)) ∧ Hid (Rd .i32 w' ja jn jc (joinL M))) := by
        intro W ga gm gc ca cm cc gb ra rc hW
        obtain ⟨h1, h3⟩ := hW.out
        refine (rjoined_any _ _ cm cc M W h1.m hMsz).mono ?_
        rintro e w' ⟨ja, jc, rfl, ho, hb⟩
        exact ⟨ja, _, jc, rfl, cell_row (h1.below hb).r 1, ⟨h1.below hb, h3.below hb⟩, own_rd ho (joinL_wfF (lines_wf (rdl_wf h1.m)))⟩
      have HRM : Hid (∀ (W : World) (ga : Option Addr) (gm gc : Nat) (ca : Option Addr) (cm cc gb : Nat) (ra : Option Addr) (rc : Nat) (ja : Option Addr) (jn jc : Nat), Hid (FlS w b b1 ⟨(A1 : Nat), (A2 : Nat)⟩ ⟨(B1 : Nat), (B2 : Nat)⟩ ga gm gc G ca cm cc M gb W ∧ Rd .i32 W ra rl rc (X.take oa ++ X.drop oe)) → Hid (Rd .i32 W ja jn jc (joinL M)) → Calls Try.prog 36 #[.slice ja jn jc, .slice ra rl rc] W fun e w' => e = .returned (.bool true) ∧ w'.cell? ⟨gb, 1, none⟩ = some (.slice ga gm gc) ∧ Hid (Below w.heap.size w w') ∧ Hid (FlS w b b1 ⟨(A1 : Nat), (A2 : Nat)⟩ ⟨(B1 : Nat), (B2 : Nat)⟩ ga gm gc G ca cm cc M gb w')) := by
        intro W ga gm gc ca cm cc gb ra rc ja jn jc hW hJ
        obtain ⟨h1, h3⟩ := hW.out
        refine (runes_any ja ra jn _ jc rc _ _ W hJ.out h3).mono ?_
        rintro e w' ⟨rfl, hb⟩
        exact ⟨by rw [decide_eq_true hf2], cell_row (h1.below hb).r 1, btr h1.tw.hb hb, h1.below hb⟩
      have HAW2 : Hid (∀ (W : World) (ga : Option Addr) (gm gc : Nat) (ca : Option Addr) (cm cc gb : Nat), Hid (FlS w b b1 ⟨(A1 : Nat), (A2 : Nat)⟩ ⟨(B1 : Nat), (B2 : Nat)⟩ ga gm gc G ca cm cc M gb W) → Calls Try.prog 17 #[] W fun e w' => e = .returned (.bool true) ∧ w'.cell? ⟨gb, 1, none⟩ = some (.slice ga gm gc) ∧ Hid (Below w.heap.size w w')) := by
        intro W ga gm gc ca cm cc gb hW
        refine (awake_any HPP.out W).mono ?_
        rintro e w' ⟨rfl, hb⟩
        exact ⟨rfl, cell_row (hW.out.below hb).r 1, btr hW.out.tw.hb hb⟩
      have HEO := Lib.hid heo
      have hodi : oa ≤ XL := by omega
      have HT0 : Hid (TwS w b b1 p q wb) := hT0
      have HT0D : Hid (TwS w b b1 p q wb.drew) := hT0.below (Below.refl _ _).drew
      have hn0i : ¬ (n : Int) = 0 := by omega
      clear hs hpl hF hfit hw hp hq hT0 g1 g2 hwb hbe hb1 HP hcp hcq hn0 hs1 htk hM1 hf1 hf2 hea heb heo hRe hRv hri hG hM hX hoa hoe hGsz hMsz hwf hGwf hlb hrow hcy hry hyl hob hrl hah hEE hPP hQQ hp0 hq0 hcnt hL0 hXL
      go_enter Try.func9, Try.ntmps9
      go_upto_region 1 with fail
      rw [HW.out, HBE.out, HB1.out]
      go_upto_region 3 with (go_at_call 11; (with_reducible refine (HFIT.out _ rfl).mono ?_); rintro e wq ⟨rfl, hwq⟩; subst hwq)
      go_cut [6] (fun v6 W => v6 = .bool false ∧ Hid (TwS w b b1 ⟨(P1 : Nat), (P2 : Nat)⟩ ⟨(Q1 : Nat), (Q2 : Nat)⟩ W))
      case first =>
        go_region_with (first
          | (go_at_call 32; (first | (with_reducible refine (HCP.out _ _ _ HT0).mono ?_) | (with_reducible refine (HCP.out _ _ _ HT0D).mono ?_) | (with_reducible refine (HCP.out _ _ _ HTQ).mono ?_)); rintro e w1 ⟨rfl, ⟨x0, x1, z0, z1, xl, y0, y1, t0, t1, yl⟩, HTP⟩)
          | (go_at_call 32; (first | (with_reducible refine (HCQ.out _ _ _ HT0).mono ?_) | (with_reducible refine (HCQ.out _ _ _ HT0D).mono ?_) | (with_reducible refine (HCQ.out _ _ _ HTP).mono ?_)); rintro e w2 ⟨rfl, ⟨x0, x1, z0, z1, xl, y0, y1, t0, t1, yl⟩, HTQ⟩))
        all_goals
          go_wp2_with fail
          go_meet
          exact ⟨rfl, (HTQ.out.setP (by rw [HBE.out]; omega) hb01 ⟨(P1 : Nat), (P2 : Nat)⟩).setQ (by rw [HBE.out]; have := HB1.out; omega) hb10 ⟨(Q1 : Nat), (Q2 : Nat)⟩⟩
      case rest =>
        obtain ⟨rfl, HT1⟩ := hcut
        obtain ⟨w3, hw3⟩ : ∃ w3, w3 = wc := ⟨_, rfl⟩
        subst hw3
        clear HT0 HT0D HCP HCQ x0 x1 z0 z1 xl y0 y1 t0 t1 yl
        obtain ⟨x0, x1, z0, z1, xl, y0, y1, t0, t1, yl⟩ := HT1.out.cells
        simp only at x0 x1 y0 y1
        go_upto_region 5 with fail
        obtain ⟨w4, hw4⟩ : ∃ w4, w3.alloc (.cells #[.int .i64 (P1 : Nat), .int .i64 (P2 : Nat), .int .i64 (Q1 : Nat), .int .i64 (Q2 : Nat), .int .i64 0] 26) = w4 := ⟨_, rfl⟩
        obtain ⟨rb, hrb⟩ : ∃ rb, w3.heap.size = rb := ⟨_, rfl⟩
        have HT2 : Hid (TwS w b b1 ⟨(P1 : Nat), (P2 : Nat)⟩ ⟨(Q1 : Nat), (Q2 : Nat)⟩ w4 ∧ w4.heap[rb]? = some (.cells #[.int .i64 (P1 : Nat), .int .i64 (P2 : Nat), .int .i64 (Q1 : Nat), .int .i64 (Q2 : Nat), .int .i64 0] 26 (0, 0))) := by
          refine ⟨?_, ?_⟩
          · rw [← hw4]; exact HT1.out.below (bal _ _)
          · rw [← hw4, ← hrb]; exact heap_alloc_new _ _
        rw [hw4, hrb]
        clear HT1 hw4 hrb x0 x1 z0 z1 xl y0 y1 t0 t1 yl
        obtain ⟨r0, r1, r2, r3, r4⟩ : w4.cell? ⟨rb, 0, none⟩ = some (.int .i64 (P1 : Nat)) ∧ w4.cell? ⟨rb, 1, none⟩ = some (.int .i64 (P2 : Nat)) ∧ w4.cell? ⟨rb, 2, none⟩ = some (.int .i64 (Q1 : Nat)) ∧ w4.cell? ⟨rb, 3, none⟩ = some (.int .i64 (Q2 : Nat)) ∧ w4.cell? ⟨rb, 4, none⟩ = some (.int .i64 0) := ⟨cell_row HT2.out.2 0, cell_row HT2.out.2 1, cell_row HT2.out.2 2, cell_row HT2.out.2 3, cell_row HT2.out.2 4⟩
        unfold TwC at HC HAH
        go_upto_if 59 with (first
          | (go_at_call 13; (with_reducible refine (HT.out _ _ HT2).mono ?_); rintro e w5' ⟨ga, gm, gc, rfl, w5, gb, hw5, hgb, ⟨r0, r1, r2, r3, r4⟩, H5⟩)
          | (go_at_call 18; (with_reducible refine (HC.out _ _ _ _ _ H5).mono ?_); rintro e w6' ⟨ca, cm, cc, rfl, w7, pb, hw7, hpb, ⟨x0, x1, z0, z1, xl, y0, y1, t0, t1, yl⟩, H7⟩)
          | (go_at_call 33; (with_reducible refine (HAH.out _ _ _ _ _ _ _ _ H7).mono ?_); rintro e w8 ⟨rfl, ⟨x0, x1, z0, z1, xl, y0, y1, t0, t1, yl⟩, H8⟩))
        clear r0 r1 r2 r3 r4 HT HT2 H5 H7 HC HAH hw5 hgb hw7 hpb
        go_cut [6] (fun v6 W => v6 = .bool false ∧ Hid (FlS w b b1 ⟨(A1 : Nat), (A2 : Nat)⟩ ⟨(B1 : Nat), (B2 : Nat)⟩ ga gm gc G ca cm cc M gb W))
        case first =>
          have hbl : w.heap.size ≤ b := by rw [HBE.out]; omega
          have hlt : b < b1 := by have := HB1.out; omega
          cases ah with
          | true =>
            have heo := HEO.out
            rw [if_pos rfl] at heo
            simp only [Prod.mk.injEq] at heo
            obtain ⟨⟨e1, e2⟩, e3, e4⟩ := heo
            have HN : Hid (FlS w b b1 ⟨(A1 : Nat), (A2 : Nat)⟩ ⟨(B1 : Nat), (B2 : Nat)⟩ ga gm gc G ca cm cc M gb ((((w8.setCell ⟨b, 0, none⟩ (.int .i64 (Q1 : Nat))).setCell ⟨b, 1, none⟩ (.int .i64 (Q2 : Nat))).setCell ⟨b1, 0, none⟩ (.int .i64 (P1 : Nat))).setCell ⟨b1, 1, none⟩ (.int .i64 (P2 : Nat)))) := by
              rw [e1, e2, e3, e4]
              exact H8.out.set hbl hlt ⟨(Q1 : Nat), (Q2 : Nat)⟩ ⟨(P1 : Nat), (P2 : Nat)⟩
            clear e1 e2 e3 e4
            go_wp2_with fail
            go_meet
            exact ⟨rfl, HN⟩
          | false =>
            have heo := HEO.out
            rw [if_neg (by simp)] at heo
            simp only [Prod.mk.injEq] at heo
            obtain ⟨⟨e1, e2⟩, e3, e4⟩ := heo
            have HN : Hid (FlS w b b1 ⟨(A1 : Nat), (A2 : Nat)⟩ ⟨(B1 : Nat), (B2 : Nat)⟩ ga gm gc G ca cm cc M gb w8) := by
              rw [e1, e2, e3, e4]
              exact H8.out
            clear e1 e2 e3 e4
            go_wp2_with fail
            go_meet
            exact ⟨rfl, HN⟩
        case rest =>
          obtain ⟨rfl, H9⟩ := hcut
          obtain ⟨w9, hw9⟩ : ∃ w9, w9 = wc := ⟨_, rfl⟩
          subst hw9
          clear H8 x0 x1 z0 z1 xl y0 y1 t0 t1 yl HEO
          obtain ⟨x0, x1, z0, z1, xl, y0, y1, t0, t1, yl⟩ := H9.out.tw.cells
          simp only at x0 x1 y0 y1
          go_upto_region 12 with fail
          obtain ⟨wt, hwt⟩ : ∃ wt, w9.alloc (.cells #[.slice (some ⟨lb, lo, none⟩) n c] 60) = wt := ⟨_, rfl⟩
          obtain ⟨tb, htb⟩ : ∃ tb, w9.heap.size = tb := ⟨_, rfl⟩
          have H10 : Hid (FlS w b b1 ⟨(A1 : Nat), (A2 : Nat)⟩ ⟨(B1 : Nat), (B2 : Nat)⟩ ga gm gc G ca cm cc M gb wt ∧ wt.heap[tb]? = some (.cells #[.slice (some ⟨lb, lo, none⟩) n c] 60 (0, 0)) ∧ w.heap.size ≤ tb) := by
            refine ⟨?_, ?_, ?_⟩
            · rw [← hwt]; exact H9.out.below (bal _ _)
            · rw [← hwt, ← htb]; exact heap_alloc_new _ _
            · rw [← htb]; exact H9.out.tw.hb.size
          rw [hwt, htb]
          clear H9 hwt htb x0 x1 z0 z1 xl y0 y1 t0 t1 yl
          obtain ⟨x0, x1, z0, z1, xl, y0, y1, t0, t1, yl⟩ := H10.out.1.tw.cells
          simp only at x0 x1 y0 y1
          have hB1i : (B1 : Int) < (n : Int) := by omega
          have hB10 : (0 : Int) ≤ (B1 : Int) := by omega
          unfold TwC at HO1 HO2
          go_upto_if 80 with (first
            | (go_at_call 34; (with_reducible refine (HO1.out _ _ _ _ _ _ _ _ _ H10).mono ?_); rintro e w11 ⟨rfl, ⟨x0, x1, z0, z1, xl, y0, y1, t0, t1, yl⟩, H11⟩)
            | (go_at_call 34; (with_reducible refine (HO2.out _ _ _ _ _ _ _ _ _ H11).mono ?_); rintro e w12 ⟨rfl, ⟨x0, x1, z0, z1, xl, y0, y1, t0, t1, yl⟩, hcy, H12⟩))
          clear HO1 HO2 H10 H11
          go_cut [16] (fun v16 W => v16 = .int .i64 (oe : Nat) ∧ Hid (FlS w b b1 ⟨(A1 : Nat), (A2 : Nat)⟩ ⟨(B1 : Nat), (B2 : Nat)⟩ ga gm gc G ca cm cc M gb W))
          case first =>
            by_cases hyz : ym = 0
            · rw [if_pos hyz] at hobe
              have e1 : ob = oe := by omega
              subst e1
              subst hyz
              go_wp2_with fail
              go_meet
              exact ⟨rfl, H12⟩
            · rw [if_neg hyz] at hobe
              have e1 : (ob : Int) + 1 = (oe : Int) := by omega
              have e2 : 0 < (ym : Int) := by omega
              have e3 : ¬ (ym : Int) = 0 := by omega
              have e4 : decide (0 < (ym : Int)) = true := decide_eq_true e2
              have e5 : 0 < ym := by omega
              have hoe6 : oe ≤ 65536 := by omega
              go_wp2_with fail
              go_meet
              exact ⟨rfl, H12⟩
          case rest =>
            obtain ⟨rfl, H13⟩ := hcut
            obtain ⟨w13, hw13⟩ : ∃ w13, w13 = wc := ⟨_, rfl⟩
            subst hw13
            clear H12 x0 x1 z0 z1 xl y0 y1 t0 t1 yl hcy hobe
            go_upto_region 17 with (go_at_call 35; (with_reducible refine (HJ0.out _ _ _ _ _ _ _ _ H13).mono ?_); rintro e w14 ⟨xa, xc, rfl, H14⟩)
            clear HJ0 H13
            have hxc : XL ≤ xc := H14.out.2.2.1
            have hxn : xa = none → xc = 0 := H14.out.2.2.2.2.2.1
            obtain ⟨r1, d1, wx1, r2, d2, wx2, hrun1, hrun2, hbx, hrd⟩ := HAPP.out w14 xa xc _ rfl H14.out.2
            have H15 : Hid (FlS w b b1 ⟨(A1 : Nat), (A2 : Nat)⟩ ⟨(B1 : Nat), (B2 : Nat)⟩ ga gm gc G ca cm cc M gb wx2 ∧ Rd .i32 wx2 xa XL xc X ∧ Rd .i32 wx2 r2 rl d2 (X.take oa ++ X.drop oe)) := ⟨H14.out.1.below hbx, H14.out.2.below hbx, hrd⟩
            have HRUN1 := Lib.hid hrun1
            have HRUN2 := Lib.hid hrun2
            have hoaxc : oa ≤ xc := by omega
            have hoexc : oe ≤ xc := by omega
            clear hrun1 hrun2 hrd HAPP hbx
            go_cut [19] (fun v19 W => ∃ ra rc, v19 = .slice ra rl rc ∧ Hid (FlS w b b1 ⟨(A1 : Nat), (A2 : Nat)⟩ ⟨(B1 : Nat), (B2 : Nat)⟩ ga gm gc G ca cm cc M gb W ∧ Rd .i32 W xa XL xc X ∧ Rd .i32 W ra rl rc (X.take oa ++ X.drop oe)))
            case first =>
              cases xa with
              | none =>
                obtain rfl := hxn rfl
                obtain rfl : XL = 0 := by omega
                obtain rfl : oe = 0 := by omega
                obtain rfl : oa = 0 := by omega
                obtain rfl : rl = 0 := by have := HRL.out; omega
                have hX0 : X = [] := List.eq_nil_of_length_eq_zero H14.out.2.1
                have HZ : Hid (FlS w b b1 ⟨(A1 : Nat), (A2 : Nat)⟩ ⟨(B1 : Nat), (B2 : Nat)⟩ ga gm gc G ca cm cc M gb (w14.alloc (.cells #[] 21)).drew ∧ Rd .i32 (w14.alloc (.cells #[] 21)).drew none 0 0 X ∧ Rd .i32 (w14.alloc (.cells #[] 21)).drew (some ⟨w14.heap.size, 0, none⟩) 0 0 (X.take 0 ++ X.drop 0)) := by
                  refine ⟨H14.out.1.below (bal w14 _).drew, H14.out.2.below (bal w14 _).drew, ?_⟩
                  rw [hX0]
                  exact (rd_lit w14 [] 0 rfl (by omega) (by simp) #[] rfl).below (Below.refl _ _).drew
                clear hX0 HRUN1 HRUN2
                go_region
                all_goals
                  go_wp2_with fail
                  go_meet
                  exact ⟨_, _, rfl, HZ⟩
              | some ad =>
                by_cases hxk : xc = oe
                · subst hxk
                  obtain rfl : XL = xc := by omega
                  simp only [Nat.sub_self, if_true] at HRUN2
                  go_region_law (first
                    | (refine step_append_run rfl (.tmp 85) (.tmp 88) _ _ rfl _ _ (by simp [Act.eval, Act.put]) (by simp [Act.eval, Act.put]) (HRUN1.out _) ?_)
                    | (refine step_append_run rfl (.tmp 89) (.tmp 92) _ _ rfl _ _ (by simp [Act.eval, Act.put]) (by simp [Act.eval, Act.put]) (HRUN2.out _) ?_))
                  all_goals
                    go_wp2_with fail
                    go_meet
                    exact ⟨r2, d2, rfl, H15⟩
                · rw [if_neg hxk] at HRUN2
                  simp only [Option.map_some, Nat.mul_one] at HRUN2
                  go_region_law (first
                    | (refine step_append_run rfl (.tmp 85) (.tmp 88) _ _ rfl _ _ (by simp [Act.eval, Act.put]) (by simp [Act.eval, Act.put]) (HRUN1.out _) ?_)
                    | (refine step_append_run rfl (.tmp 89) (.tmp 92) _ _ rfl _ _ (by simp [Act.eval, Act.put]) (by simp [Act.eval, Act.put]) (HRUN2.out _) ?_))
                  all_goals
                    go_wp2_with fail
                    go_meet
                    exact ⟨r2, d2, rfl, H15⟩
            case rest =>
              obtain ⟨ra, rc, rfl, H16⟩ := hcut
              obtain ⟨w16, hw16⟩ : ∃ w16, w16 = wc := ⟨_, rfl⟩
              subst hw16
              clear HRUN1 HRUN2 H15
              have hg1 := cell_row H16.out.1.r 1
              have hgl := heap_lt H16.out.1.r
              have hg1d : w16.drew.cell? ⟨gb, 1, none⟩ = some (.slice ga gm gc) := cell_row (H16.out.1.below (Below.refl _ _).drew).r 1
              have H16D : Hid (FlS w b b1 ⟨(A1 : Nat), (A2 : Nat)⟩ ⟨(B1 : Nat), (B2 : Nat)⟩ ga gm gc G ca cm cc M gb w16.drew ∧ Rd .i32 w16.drew xa XL xc X ∧ Rd .i32 w16.drew ra rl rc (X.take oa ++ X.drop oe)) := ⟨H16.out.1.below (Below.refl _ _).drew, H16.out.2.1.below (Below.refl _ _).drew, H16.out.2.2.below (Below.refl _ _).drew⟩
              go_upto_region 18 with fail
              cases xa with
              | none =>
                obtain rfl := hxn rfl
                obtain rfl : XL = 0 := by omega
                obtain rfl : oe = 0 := by omega
                obtain rfl : oa = 0 := by omega
                have HRG2 := Lib.hid (fun W ja jn jc hW hJ => HRG.out W ga gm gc ca cm cc gb none 0 ra rc ja jn jc none rfl hW hJ)
                simp only [Nat.sub_self] at HRG2
                go_region_held3 (fun W => W.cell? ⟨gb, 1, none⟩ = some (.slice ga gm gc))
                  (first | exact hg1 | exact hg1d | exact k1 | exact k2 | exact k3 | exact k4 | exact k5)
                  (first
                    | (go_at_call 17; (with_reducible refine (HAW2.out _ _ _ _ _ _ _ _ J4).mono ?_); rintro e w21 ⟨rfl, k5, J5⟩)
                    | (go_at_call 36; (with_reducible refine (HRM.out _ _ _ _ _ _ _ _ _ _ _ _ _ J3 K3).mono ?_); rintro e w20 ⟨rfl, k4, JB, J4⟩)
                    | (go_at_call 35; (with_reducible refine (HJM.out _ _ _ _ _ _ _ _ _ _ J2).mono ?_); rintro e w19 ⟨ka, kn, kc, rfl, k3, J3, K3⟩)
                    | (go_at_call 36; (refine (HRG2.out _ _ _ _ J1 K1).mono ?_); rintro e w18 ⟨rfl, k2, J2⟩)
                    | (go_at_call 35; (with_reducible first | refine (HJG.out _ _ _ _ _ _ _ _ _ _ _ _ H16).mono ?_ | refine (HJG.out _ _ _ _ _ _ _ _ _ _ _ _ H16D).mono ?_); rintro e w17 ⟨ja, jn, jc, rfl, k1, J1, K1⟩))
                all_goals
                  go_wp2_with fail
                  go_ret
                  exact ⟨rfl, J5.out⟩
              | some ad =>
                by_cases hxk : xc = oa
                · have HRG2 := Lib.hid (fun W ja jn jc hW hJ => HRG.out W ga gm gc ca cm cc gb (some ad) xc ra rc ja jn jc (some ad) (by rw [if_pos hxk]) hW hJ)
                  subst hxk
                  obtain rfl : oe = xc := by omega
                  simp only [Nat.sub_self] at HRG2
                  go_region_held3 (fun W => W.cell? ⟨gb, 1, none⟩ = some (.slice ga gm gc))
                    (first | exact hg1 | exact hg1d | exact k1 | exact k2 | exact k3 | exact k4 | exact k5)
                    (first
                      | (go_at_call 17; (with_reducible refine (HAW2.out _ _ _ _ _ _ _ _ J4).mono ?_); rintro e w21 ⟨rfl, k5, J5⟩)
                      | (go_at_call 36; (with_reducible refine (HRM.out _ _ _ _ _ _ _ _ _ _ _ _ _ J3 K3).mono ?_); rintro e w20 ⟨rfl, k4, JB, J4⟩)
                      | (go_at_call 35; (with_reducible refine (HJM.out _ _ _ _ _ _ _ _ _ _ J2).mono ?_); rintro e w19 ⟨ka, kn, kc, rfl, k3, J3, K3⟩)
                      | (go_at_call 36; (refine (HRG2.out _ _ _ _ J1 K1).mono ?_); rintro e w18 ⟨rfl, k2, J2⟩)
                      | (go_at_call 35; (with_reducible first | refine (HJG.out _ _ _ _ _ _ _ _ _ _ _ _ H16).mono ?_ | refine (HJG.out _ _ _ _ _ _ _ _ _ _ _ _ H16D).mono ?_); rintro e w17 ⟨ja, jn, jc, rfl, k1, J1, K1⟩))
                  all_goals
                    go_wp2_with fail
                    go_ret
                    exact ⟨rfl, J5.out⟩
                · have HRG2 := Lib.hid (fun W ja jn jc hW hJ => HRG.out W ga gm gc ca cm cc gb (some ad) xc ra rc ja jn jc (some (ad.add oa)) (by rw [if_neg hxk]; simp) hW hJ)
                  go_region_held3 (fun W => W.cell? ⟨gb, 1, none⟩ = some (.slice ga gm gc))
                    (first | exact hg1 | exact hg1d | exact k1 | exact k2 | exact k3 | exact k4 | exact k5)
                    (first
                      | (go_at_call 17; (with_reducible refine (HAW2.out _ _ _ _ _ _ _ _ J4).mono ?_); rintro e w21 ⟨rfl, k5, J5⟩)
                      | (go_at_call 36; (with_reducible refine (HRM.out _ _ _ _ _ _ _ _ _ _ _ _ _ J3 K3).mono ?_); rintro e w20 ⟨rfl, k4, JB, J4⟩)
                      | (go_at_call 35; (with_reducible refine (HJM.out _ _ _ _ _ _ _ _ _ _ J2).mono ?_); rintro e w19 ⟨ka, kn, kc, rfl, k3, J3, K3⟩)
                      | (go_at_call 36; (refine (HRG2.out _ _ _ _ J1 K1).mono ?_); rintro e w18 ⟨rfl, k2, J2⟩)
                      | (go_at_call 35; (with_reducible first | refine (HJG.out _ _ _ _ _ _ _ _ _ _ _ _ H16).mono ?_ | refine (HJG.out _ _ _ _ _ _ _ _ _ _ _ _ H16D).mono ?_); rintro e w17 ⟨ja, jn, jc, rfl, k1, J1, K1⟩))
                  all_goals
                    go_wp2_with fail
                    go_ret
                    exact ⟨rfl, J5.out⟩
  · have hF2 : fitL L = false := by simpa using hF
    rw [hF2] at hfit
    have HFIT : Hid (∀ W, W = wb → Calls Try.prog 11 #[.slice a n c] W fun e w' => e = .returned (.bool false) ∧ W = w') := by
      rintro W rfl
      exact hfit.mono fun e w' h => ⟨h.1, h.2.symm⟩
    have H7 : Hid (Below w.heap.size w wb) := HB.out
    clear hF hF2 hfit h hw hp hq hT0 g1 g2 hB hwb hbe hb1 HP hl
    go_enter Try.func9, Try.ntmps9
    go_upto_region 1 with fail
    rw [HW.out, HBE.out, HB1.out]
    go_wp2_with (first
      | (go_at_call 11; (with_reducible refine (HFIT.out _ rfl).mono ?_); rintro e wq ⟨rfl, hwq⟩; subst hwq)
      | (go_at_call 17; (with_reducible refine (HAW.out _ H7).mono ?_); rintro e w8 ⟨rfl, H8⟩))
    go_ret
    exact ⟨rfl, H8.out⟩
end Go.Proofs.Ytfldjoiohejilaa.U
