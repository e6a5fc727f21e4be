/-
  The walk of the document's Units.
-/
import Derived.Test.YthceooehndiglaaDoorCRefU
import Derived.Deep.QuietTactic
import Derived.BigQuiet
import Derived.Deep.DeepCutAuto
namespace Go.Proofs.YthceooehndiglaaDoor.U
open Go.RowKit
set_option linter.unusedVariables false
set_option linter.unusedSimpArgs false

theorem tab_is (t : Int) (tab : Nat) (w : World) (h : Hid (tabM t = tab)) :
    Calls Tryd.prog 33 #[.int .i64 t] w fun e w' => e = .returned (.int .i64 tab) ∧ w = w' := by
  have := h.out; subst this; exact tab_any t w
theorem rshow_is (r : Int) (m : Nat) (w : World) (h : Hid ((showM r).length = m)) :
    Calls Tryd.prog 14 #[.int .i32 r] w fun e w' => ∃ ta tc, e = .returned (.slice ta m tc) ∧ w'.ownsRow w.heap.size 21 1 (.slice ta m tc) m ((showM r).map (Value.int .i32)) ∧ Below w.heap.size w w' := by
  have := h.out
  subst this
  refine (rshow_own r w).mono ?_
  rintro e w' ⟨v, rfl, ho, hb⟩
  obtain ⟨ta, tc, rfl⟩ := own_slice ho
  exact ⟨ta, tc, rfl, ho, hb⟩
theorem RG.slice {line tab n0 i W v vs} (h : RG line tab n0 i W v vs) : ∃ a c, v = .slice a vs.length c := own_slice h.1

set_option maxRecDepth 100000 in
set_option maxHeartbeats 16000000 in
theorem runits_any (a : Option Addr) (len cap : Nat) (line : List Int) (t : Int) (tab : Nat) (htab : tabM t = tab) (w : World) (hr : Rd .i32 w a len cap line) (hlen : len ≤ 100000) :
    Calls Tryd.prog 18 #[.slice a len cap, .int .i64 t] w fun e w' =>
      ∃ b m c vs, e = .returned (.slice b m c) ∧ RdU w' b m c vs ∧ vs.map UV.u = units line tab ∧ (∀ x ∈ vs, x.tx = textM line x.u) ∧ Below w.heap.size w w' := by
  have hT := tabM_in t
  rw [htab] at hT
  have HTAB := Lib.hid htab
  obtain ⟨i0, hi, hz0, hz1, hz2⟩ := info_parts infoU
  obtain ⟨ir, hir, hr0, hr1, hr2⟩ := info_parts infoR
  have hll := hr.len
  have HR := Lib.hid hr
  have HLL := Lib.hid hll
  clear htab hr hll
  go_enter Tryd.func18, Tryd.ntmps18
  go_wp2_with (go_at_call 33; refine (tab_is t tab _ HTAB).mono ?_; rintro e w' ⟨rfl, rfl⟩)
  go_loopw [5, 6, 7] (fun v c i wr => ∃ (j q n ck : Nat) (ak : Option Addr) (vs : List UV), j ≤ len ∧ i = .int .i64 j ∧ c = .int .i64 q ∧ v = .slice ak n ck ∧ n ≤ j ∧ q ≤ 64 * j ∧ Hid (q = endCol (unitsN line tab j) ∧ n = vs.length ∧ RG line tab w.heap.size j wr (.slice ak n ck) vs) ∧ Below w.heap.size w wr) (fun _ _ i _ => len - (intOf i).toNat)
  case atStart => exact ⟨0, 0, 0, 0, none, [], by omega, rfl, rfl, rfl, by omega, by omega, ⟨rfl, rfl, RG.start (Nat.le_refl _)⟩, Below.refl _ _⟩
  case round =>
    obtain ⟨wq, hwq⟩ : ∃ x, x = wr := ⟨wr, rfl⟩
    subst hwq
    obtain ⟨j, q, n, ck, ak, vs, hj, rfl, rfl, rfl, hnj, hq, hRG, hbw⟩ := hrel
    by_cases hlt : j < len
    · obtain ⟨bl, ol, rfl, hbl, hcl⟩ := rd_rn (HR.out.below hbw) (by omega)
      have cj := hcl j hlt
      have HCL := Lib.hid hcl
      have HBW := Lib.hid hbw
      have hws := hbw.size
      obtain ⟨r, hrr⟩ : ∃ r, rn line j = r := ⟨_, rfl⟩
      rw [hrr] at cj
      have HRR := Lib.hid hrr
      clear hcl hbw hrr
      have hwf : (Lit.int .i32 r).wf = true := by
        rw [← HRR.out]; exact HR.out.2.2.2.1 _ (getD_mem (by rw [HLL.out]; exact hlt))
      have HWF := Lib.hid hwf; clear hwf
      have i3 : (0 : Int) ≤ (j : Int) := by omega
      by_cases hz : zeroB r = true
      · have HZ := Lib.hid hz
        have h9 : r ≠ 9 := fun h => by rw [h] at hz; exact absurd hz (by decide)
        have h9' : (r == 9) = false := by simpa using h9
        have HW0 : Hid (widthM r = 0) := (widthM_zero r).2 hz
        clear hz
        have hwidth : ∀ c, width1 line tab c j = 1 := fun c => by
          unfold width1
          rw [HRR.out, if_neg h9, if_pos HZ.out]
        have HTX : Hid (textM line ⟨j, j + 1, q, 1⟩ = [32, r]) := by
          have h := text_zero_new (line := line) (i := j) (c := q) (d := 1) (by rw [HRR.out]; exact h9) (by rw [HRR.out]; exact HZ.out) (by rw [HLL.out]; exact hlt)
          rw [HRR.out] at h
          exact h
        have HNEW : Hid (newU line tab (unitsN line tab j) j = ⟨j, j + 1, q, 1⟩) := by
          have h := hRG.out.1
          show newU line tab (unitsN line tab j) j = _
          unfold newU
          rw [← h, hwidth]
        clear hwidth
        by_cases hn : n = 0
        · have HJN : Hid (joins line (unitsN line tab j) j = false) := by
            have h1 := hRG.out.2.1
            have h2 := hRG.out.2.2.len
            have h3 : unitsN line tab j = [] := List.eq_nil_of_length_eq_zero (by omega)
            show joins _ _ _ = _
            rw [h3]
            simp [joins, openU_nil]
          subst hn
          go_upto_region 27 with (first
            | (go_at_call 27; refine (zero_is r true _ HZ).mono ?_; rintro e w' ⟨rfl, rfl⟩)
            | (go_at_call 11; refine (rwidth_is r 0 _ HW0).mono ?_; rintro e w' ⟨rfl, rfl⟩)
            | (go_at_call 14; refine (rshow_own r _).mono ?_; rintro e w2 ⟨tv, rfl, hown2, hb2⟩; obtain ⟨ta, tc, rfl⟩ := own_slice hown2; have HOWN2 := Lib.hid hown2; have HB2 := Lib.hid hb2; clear hown2 hb2))
          obtain ⟨X, hX⟩ : ∃ X, ((w2.alloc (.cells #[.int .i64 (j : Nat), .int .i64 ((j : Int) + 1), .int .i64 (q : Nat), .int .i64 1, .slice (some ⟨w2.heap.size + 1, 0, none⟩) 2 2] 39)).alloc (.cells #[.int .i32 32, .int .i32 r] 21)) = X := ⟨_, rfl⟩
          rw [hX]
          have hbX : Below wq.heap.size wq X := by
            rw [← hX]
            exact ((HB2.out.alloc HB2.out.size _).alloc (by have := HB2.out.size; simp; omega) _)
          have hxs : w2.heap.size < X.heap.size := by rw [← hX]; simp only [World.size_alloc]; omega
          have hbox : X.heap[w2.heap.size]? = some (.cells #[.int .i64 (j : Nat), .int .i64 ((j : Int) + 1), .int .i64 (q : Nat), .int .i64 1, .slice (some ⟨w2.heap.size + 1, 0, none⟩) 2 2] 39 (0, 0)) := by
            rw [← hX]
            exact (Below.heap_alloc _ _ _ (by simp)).trans (heap_alloc_new w2 _)
          have d0 : X.cell? ⟨w2.heap.size, 0, none⟩ = some (.int .i64 (j : Nat)) := by simp [World.cell?, hbox]
          have d1 : X.cell? ⟨w2.heap.size, 1, none⟩ = some (.int .i64 ((j : Int) + 1)) := by simp [World.cell?, hbox]
          have d2 : X.cell? ⟨w2.heap.size, 2, none⟩ = some (.int .i64 (q : Nat)) := by simp [World.cell?, hbox]
          have d3 : X.cell? ⟨w2.heap.size, 3, none⟩ = some (.int .i64 1) := by simp [World.cell?, hbox]
          have d4 : X.cell? ⟨w2.heap.size, 4, none⟩ = some (.slice (some ⟨w2.heap.size + 1, 0, none⟩) 2 2) := by simp [World.cell?, hbox]
          obtain ⟨y, hy⟩ : ∃ y : UV, y = ⟨⟨j, j + 1, q, 1⟩, (some ⟨w2.heap.size + 1, 0, none⟩), 2, 2, [32, r]⟩ := ⟨_, rfl⟩
          have hyc : y.cells = [.int .i64 (j : Nat), .int .i64 ((j : Int) + 1), .int .i64 (q : Nat), .int .i64 1, .slice (some ⟨w2.heap.size + 1, 0, none⟩) 2 2] := by rw [hy]; rfl
          have HOY : Hid (OwnT X w2.heap.size y) := by
            show OwnT _ _ _
            rw [hy]
            rw [← hX]
            refine own_of_row (g := w2.heap.size + 1) (cs := [.int .i32 32, .int .i32 r]) ?_ (by omega) ⟨rfl, rfl⟩ (by show 2 ≤ _; unfold maxLen; omega)
            have h := heap_alloc_new (w2.alloc (.cells #[.int .i64 (j : Nat), .int .i64 ((j : Int) + 1), .int .i64 (q : Nat), .int .i64 1, .slice (some ⟨w2.heap.size + 1, 0, none⟩) 2 2] 39)) (.cells #[.int .i32 32, .int .i32 r] 21)
            rw [World.size_alloc] at h
            exact h
          have HYU : Hid (y.u = newU line tab (unitsN line tab j) j) := by rw [hy]; exact HNEW.out.symm
          have HYT : Hid (y.tx = textM line y.u) := by rw [hy]; exact HTX.out.symm
          have hnews := news_cells X y 39
          rw [hyc] at hnews
          obtain ⟨k1, k2, k3⟩ := hRG.out
          have HROW := Lib.hid (k3.below hbX).1
          have hwb : w2.heap.size < X.heap.size := hxs
          have hws2 := HB2.out.size
          have HNE : Hid (some w2.heap.size ≠ (Value.slice ak 0 ck).ownBlock) := fun e => by have := (k3.1.lt _ e.symm).2; omega
          have HK3 := Lib.hid k3
          have hvl : vs.length = 0 := by first | exact k2.symm | omega
          have HVL := Lib.hid hvl
          have HBX := Lib.hid hbX
          have HN := Lib.hid hnews
          have HYC := Lib.hid hyc
          have HBOX := Lib.hid hbox
          have hQ := k1
          have HQ := Lib.hid hQ
          clear k1 k2 k3 hnews hyc hy hX hbX hbox hvl hQ
          go_wp2_with (at_builtin; refine wpList_append_own _ rfl (.tmp 123) (.tmp 125) 29 rfl w.heap.size 39 i0 _ 5 56 Tryd.underlying29 hi hz0 hz1 hz2 rfl (by decide) _ vs.length (flat vs) rfl (HROW.out.alloc _) ⟨X.heap.size, 0, none⟩ 1 1 [.int .i64 (j : Nat), .int .i64 ((j : Int) + 1), .int .i64 (q : Nat), .int .i64 1, .slice (some ⟨w2.heap.size + 1, 0, none⟩) 2 2] rfl rfl HN.out (by simp [Value.oneCell']) (by have := HVL.out; unfold maxLen; omega) (by have := HVL.out; omega) (by have := HBX.out.size; simp; omega) ?_; intro v' w4 hown' hgrow _; have d3' : w4.cell? ⟨w2.heap.size, 3, none⟩ = some (.int .i64 1) := (by rw [World.cell?_of_block (w := X) (a := ⟨w2.heap.size, 3, none⟩) ((hgrow.block _ (by simp; omega) HNE.out).trans (Below.heap_alloc _ _ _ hwb))]; simp [World.cell?, HBOX.out]); obtain ⟨g', cap', rfl⟩ := ownsRow_succ hown'; have HO' := Lib.hid hown'; have HGR := Lib.hid hgrow; clear hown' hgrow)
          go_roundw
          case rel =>
            have hvl := HVL.out
            refine ⟨j + 1, q + 1, vs.length + 1, cap', some ⟨g', 0, none⟩, vs ++ [y], by omega, by go_num, by go_num, rfl, by omega, by omega, ⟨?_, by simp, ?_⟩, ?_⟩
            · rw [unitsN_succ, stepU_new HJN.out, endCol_snoc, HNEW.out]
            · exact HK3.out.push HJN.out HBX.out (by omega) HYU.out HYT.out hws2 (Nat.le_of_lt hwb) HOY.out HGR.out (by rw [HYC.out]; exact HO'.out)
            · exact ((HBW.out.trans (HBX.out.mono hws)).alloc (by have := HBX.out.size; omega) _).grown HGR.out (by have := HBX.out.size; simp; omega) (fun k e => (HROW.out.lt k e).1)
          case measure => simp [intOf]; omega

        · obtain ⟨k1, k2, k3⟩ := hRG.out
          obtain ⟨p, y, hvs⟩ : ∃ p y, vs = p ++ [y] := by
            rcases snoc_cases vs with h | h
            · exact absurd (by rw [k2, h]; rfl) hn
            · exact h
          have HVS := Lib.hid hvs
          rw [hvs] at k2 k3
          clear hvs
          obtain ⟨⟨f, g2, c, d⟩, ta0, tl0, tc0, tx0⟩ := y
          obtain ⟨P, hP⟩ : ∃ P, p.length = P := ⟨_, rfl⟩
          have hnP : n = P + 1 := by rw [k2]; simp [hP]
          have hown1 := k3.1
          rw [show (p ++ [(⟨⟨f, g2, c, d⟩, ta0, tl0, tc0, tx0⟩ : UV)]).length = P + 1 from by simp [hP]] at hown1
          obtain ⟨g, cg, hak⟩ := ownsRow_succ hown1
          simp only [Value.slice.injEq] at hak
          obtain ⟨rfl, -, rfl⟩ := hak
          have hue : p.map UV.u ++ [⟨f, g2, c, d⟩] = unitsN line tab j := by have h := k3.2.1; simpa using h
          have hgd := good line tab j
          have he5 := hgd.each (p.map UV.u) ⟨f, g2, c, d⟩ [] hue.symm
          have hg2 : j = g2 := by
            symm
            by_cases hj0 : j = 0
            · have h := hgd.zero hj0
              rw [← hue] at h
              simp at h
            · obtain ⟨p', u', e, hto⟩ := hgd.last hj0
              rw [← hue] at e
              obtain ⟨_, e'⟩ := List.append_inj' e rfl
              simp only [List.cons.injEq, and_true] at e'
              subst e'
              exact hto
          subst hg2
          have HE5 := Lib.hid he5
          have hfj : f < j := he5.2.2.1
          have hmk3 := he5.2.2.2.2.2.2.2
          unfold marksU at hmk3
          simp only at hmk3
          have HUE := Lib.hid hue
          have c0 := (own_cell k3.1 (j := P * 5) (u := .int .i64 (f : Nat)) (by rw [← hP]; exact flat_get p _ 0 (by omega))).1
          have c1 := own_cell k3.1 (j := P * 5 + 1) (u := .int .i64 (j : Nat)) (by rw [← hP]; exact flat_get p _ 1 (by omega))
          have c4 := (own_cell k3.1 (j := P * 5 + 4) (u := .slice ta0 tl0 tc0) (by rw [← hP]; exact flat_get p _ 4 (by omega))).1
          obtain ⟨c1, f1⟩ := c1
          have cf := HCL.out f (by omega)
          obtain ⟨rf, hrf⟩ : ∃ rf, rn line f = rf := ⟨_, rfl⟩
          rw [hrf] at cf
          have HRF := Lib.hid hrf
          obtain ⟨mk, hmk⟩ : ∃ mk, j - f = mk := ⟨_, rfl⟩
          rw [hmk] at hmk3
          have hmk' : (j : Int) - (f : Int) = (mk : Nat) := by omega
          have w8 : IntKind.i64.wrap ((j : Int) - (f : Int)) = (mk : Nat) := by rw [IntKind.wrap_i64]; omega
          have w9 : IntKind.i64.wrap (mk : Int) = (mk : Nat) := by rw [IntKind.wrap_i64]; omega
          have e7 : (n : Int) - 1 = (P : Nat) := by omega
          have i5 : (0 : Int) ≤ (f : Int) := by omega
          have i6 : (f : Int) < (len : Int) := by omega
          have i7 : (0 : Int) ≤ (P : Int) := by omega
          have i8 : (P : Int) < (n : Int) := by omega
          have hn1 : 0 < n := by omega
          have HNP := Lib.hid hnP
          clear hnP
          have hzc : zc line f = if zeroB rf then 1 else 0 := by unfold zc; rw [hrf]
          have HJO : Hid (joins line (unitsN line tab j) j = ((rf != 9) && decide (mk + zc line f ≤ 2))) := by
            show joins _ _ _ = _
            rw [← hue]
            unfold joins
            rw [openU_snoc, HRR.out, HZ.out]
            unfold marksU
            simp only
            rw [hrf, hmk]
            simp
          clear k1 k2 k3 hown1 hue hgd he5 hrf hn
          have hzr : zeroB r = true := HZ.out
          by_cases h9f : rf = 9
          · subst h9f
            have hzf : zeroB 9 = false := by decide
            have HJN : Hid (joins line (unitsN line tab j) j = false) := by show _ = _; rw [HJO.out]; simp
            clear hzc hmk hmk3
            go_wp2_with (first
              | (go_at_call 27; refine (zero_any _ _).mono ?_; rintro e w' ⟨rfl, rfl⟩)
              | (go_at_call 11; refine (rwidth_is r 0 _ HW0).mono ?_; rintro e w' ⟨rfl, rfl⟩)
              | (go_at_call 14; refine (rshow_own r _).mono ?_; rintro e w2 ⟨tv, rfl, hown2, hb2⟩; obtain ⟨ta, tc, rfl⟩ := own_slice hown2; have HB2 : Hid (Below wq.heap.size wq w2) := (bdrewN (Below.refl _ wq) _).trans hb2; clear hown2 hb2))
            go_quiet (fail)
            go_upto_region 27 with (first
              | (go_at_call 27; refine (zero_any _ _).mono ?_; rintro e w' ⟨rfl, rfl⟩)
              | (go_at_call 11; refine (rwidth_is r 0 _ HW0).mono ?_; rintro e w' ⟨rfl, rfl⟩)
              | (go_at_call 14; refine (rshow_own r _).mono ?_; rintro e w2 ⟨tv, rfl, hown2, hb2⟩; obtain ⟨ta, tc, rfl⟩ := own_slice hown2; have HB2 : Hid (Below wq.heap.size wq w2) := (bdrewN (Below.refl _ wq) _).trans hb2; clear hown2 hb2))
            obtain ⟨X, hX⟩ : ∃ X, ((w2.alloc (.cells #[.int .i64 (j : Nat), .int .i64 ((j : Int) + 1), .int .i64 (q : Nat), .int .i64 1, .slice (some ⟨w2.heap.size + 1, 0, none⟩) 2 2] 39)).alloc (.cells #[.int .i32 32, .int .i32 r] 21)) = X := ⟨_, rfl⟩
            rw [hX]
            have hbX : Below wq.heap.size wq X := by
              rw [← hX]
              exact ((HB2.out.alloc HB2.out.size _).alloc (by have := HB2.out.size; simp; omega) _)
            have hxs : w2.heap.size < X.heap.size := by rw [← hX]; simp only [World.size_alloc]; omega
            have hbox : X.heap[w2.heap.size]? = some (.cells #[.int .i64 (j : Nat), .int .i64 ((j : Int) + 1), .int .i64 (q : Nat), .int .i64 1, .slice (some ⟨w2.heap.size + 1, 0, none⟩) 2 2] 39 (0, 0)) := by
              rw [← hX]
              exact (Below.heap_alloc _ _ _ (by simp)).trans (heap_alloc_new w2 _)
            have d0 : X.cell? ⟨w2.heap.size, 0, none⟩ = some (.int .i64 (j : Nat)) := by simp [World.cell?, hbox]
            have d1 : X.cell? ⟨w2.heap.size, 1, none⟩ = some (.int .i64 ((j : Int) + 1)) := by simp [World.cell?, hbox]
            have d2 : X.cell? ⟨w2.heap.size, 2, none⟩ = some (.int .i64 (q : Nat)) := by simp [World.cell?, hbox]
            have d3 : X.cell? ⟨w2.heap.size, 3, none⟩ = some (.int .i64 1) := by simp [World.cell?, hbox]
            have d4 : X.cell? ⟨w2.heap.size, 4, none⟩ = some (.slice (some ⟨w2.heap.size + 1, 0, none⟩) 2 2) := by simp [World.cell?, hbox]
            obtain ⟨y, hy⟩ : ∃ y : UV, y = ⟨⟨j, j + 1, q, 1⟩, (some ⟨w2.heap.size + 1, 0, none⟩), 2, 2, [32, r]⟩ := ⟨_, rfl⟩
            have hyc : y.cells = [.int .i64 (j : Nat), .int .i64 ((j : Int) + 1), .int .i64 (q : Nat), .int .i64 1, .slice (some ⟨w2.heap.size + 1, 0, none⟩) 2 2] := by rw [hy]; rfl
            have HOY : Hid (OwnT X w2.heap.size y) := by
              show OwnT _ _ _
              rw [hy]
              rw [← hX]
              refine own_of_row (g := w2.heap.size + 1) (cs := [.int .i32 32, .int .i32 r]) ?_ (by omega) ⟨rfl, rfl⟩ (by show 2 ≤ _; unfold maxLen; omega)
              have h := heap_alloc_new (w2.alloc (.cells #[.int .i64 (j : Nat), .int .i64 ((j : Int) + 1), .int .i64 (q : Nat), .int .i64 1, .slice (some ⟨w2.heap.size + 1, 0, none⟩) 2 2] 39)) (.cells #[.int .i32 32, .int .i32 r] 21)
              rw [World.size_alloc] at h
              exact h
            have HYU : Hid (y.u = newU line tab (unitsN line tab j) j) := by rw [hy]; exact HNEW.out.symm
            have HYT : Hid (y.tx = textM line y.u) := by rw [hy]; exact HTX.out.symm
            have hnews := news_cells X y 39
            rw [hyc] at hnews
            obtain ⟨k1, k2, k3⟩ := hRG.out
            have HROW := Lib.hid (k3.below hbX).1
            have hwb : w2.heap.size < X.heap.size := hxs
            have hws2 := HB2.out.size
            have HNE : Hid (some w2.heap.size ≠ (Value.slice (some ⟨g, 0, none⟩) n ck).ownBlock) := fun e => by have := (k3.1.lt _ e.symm).2; omega
            have HK3 := Lib.hid k3
            have hvl : vs.length = n := by first | exact k2.symm | omega
            have HVL := Lib.hid hvl
            have HBX := Lib.hid hbX
            have HN := Lib.hid hnews
            have HYC := Lib.hid hyc
            have HBOX := Lib.hid hbox
            have hQ := k1
            have HQ := Lib.hid hQ
            clear k1 k2 k3 hnews hyc hy hX hbX hbox hvl hQ
            go_wp2_with (at_builtin; refine wpList_append_own _ rfl (.tmp 123) (.tmp 125) 29 rfl w.heap.size 39 i0 _ 5 56 Tryd.underlying29 hi hz0 hz1 hz2 rfl (by decide) _ vs.length (flat vs) rfl (HROW.out.alloc _) ⟨X.heap.size, 0, none⟩ 1 1 [.int .i64 (j : Nat), .int .i64 ((j : Int) + 1), .int .i64 (q : Nat), .int .i64 1, .slice (some ⟨w2.heap.size + 1, 0, none⟩) 2 2] rfl rfl HN.out (by simp [Value.oneCell']) (by have := HVL.out; unfold maxLen; omega) (by have := HVL.out; omega) (by have := HBX.out.size; simp; omega) ?_; intro v' w4 hown' hgrow _; have d3' : w4.cell? ⟨w2.heap.size, 3, none⟩ = some (.int .i64 1) := (by rw [World.cell?_of_block (w := X) (a := ⟨w2.heap.size, 3, none⟩) ((hgrow.block _ (by simp; omega) HNE.out).trans (Below.heap_alloc _ _ _ hwb))]; simp [World.cell?, HBOX.out]); obtain ⟨g', cap', rfl⟩ := ownsRow_succ hown'; have HO' := Lib.hid hown'; have HGR := Lib.hid hgrow; clear hown' hgrow)
            go_roundw
            case rel =>
              have hvl := HVL.out
              refine ⟨j + 1, q + 1, vs.length + 1, cap', some ⟨g', 0, none⟩, vs ++ [y], by omega, by go_num, by go_num, rfl, by omega, by omega, ⟨?_, by simp, ?_⟩, ?_⟩
              · rw [unitsN_succ, stepU_new HJN.out, endCol_snoc, HNEW.out]
              · exact HK3.out.push HJN.out HBX.out (by omega) HYU.out HYT.out hws2 (Nat.le_of_lt hwb) HOY.out HGR.out (by rw [HYC.out]; exact HO'.out)
              · exact ((HBW.out.trans (HBX.out.mono hws)).alloc (by have := HBX.out.size; omega) _).grown HGR.out (by have := HBX.out.size; simp; omega) (fun k e => (HROW.out.lt k e).1)
            case measure => simp [intOf]; omega

          have h9f' : (rf != 9) = true := by simpa using h9f
          have h9f2 : (rf == 9) = false := by simpa using h9f
          by_cases hzf : zeroB rf = true
          · rw [if_pos hzf] at hzc
            rw [hzc] at hmk3
            by_cases hm2 : mk + 1 ≤ 2
            · have HJN : Hid (joins line (unitsN line tab j) j = true) := by show _ = _; rw [HJO.out, hzc]; simp [h9f]; omega
              clear hzc hmk
              go_wp2_with (first
                | (go_at_call 27; refine (zero_any _ _).mono ?_; rintro e w' ⟨rfl, rfl⟩)
                | (go_at_call 11; refine (rwidth_is r 0 _ HW0).mono ?_; rintro e w' ⟨rfl, rfl⟩)
                | (go_at_call 14; refine (rshow_own r _).mono ?_; rintro e w2 ⟨tv, rfl, hown2, hb2⟩; obtain ⟨ta, tc, rfl⟩ := own_slice hown2; have HB2 : Hid (Below wq.heap.size wq w2) := (bdrewN (Below.refl _ wq) _).trans hb2; clear hown2 hb2))
              go_quiet (fail)
              go_upto_region 15 with (first
                | (go_at_call 27; refine (zero_any _ _).mono ?_; rintro e w' ⟨rfl, rfl⟩)
                | (go_at_call 11; refine (rwidth_is r 0 _ HW0).mono ?_; rintro e w' ⟨rfl, rfl⟩)
                | (go_at_call 14; refine (rshow_own r _).mono ?_; rintro e w2 ⟨tv, rfl, hown2, hb2⟩; obtain ⟨ta, tc, rfl⟩ := own_slice hown2; have HB2 : Hid (Below wq.heap.size wq w2) := (bdrewN (Below.refl _ wq) _).trans hb2; clear hown2 hb2))
              obtain ⟨W1, hW1⟩ : ∃ W1, (wq.drewN nq).setCell ⟨g, P * 5 + 1, none⟩ (.int .i64 ((j : Int) + 1)) = W1 := ⟨_, rfl⟩
              rw [hW1]
              obtain ⟨k1, k2, k3⟩ := hRG.out
              rw [HVS.out] at k2 k3
              obtain ⟨mB, m1, m2, m3⟩ := k3.2.2.2
              obtain ⟨m4, m5⟩ := m3 p _ rfl
              have s1 : W1.heap.size = wq.heap.size := by rw [← hW1]; simp [World.setCell]
              have hrow0 : (wq.drewN nq).ownsRow w.heap.size 39 5 (.slice (some ⟨g, 0, none⟩) n ck) (p.length + 1) (flat (p ++ [⟨⟨f, j, c, d⟩, ta0, tl0, tc0, tx0⟩])) := by
                have h := k3.1
                rw [List.length_append] at h
                exact h
              have hrow1 := own_set hrow0 (j := P * 5 + 1) (by rw [flat_len, ← hP]; simp; omega) (.int .i64 ((j : Int) + 1))
              rw [← hP, flat_set p _ 1 _ (by omega)] at hrow1
              rw [← hP] at hW1
              rw [hW1] at hrow1
              rw [hP] at hW1
              have apart : ∀ {B : Nat} {x : UV}, OwnT wq B x → OwnT W1 B x := fun hx => own_block hx (fun k e => by
                rw [← hW1]
                refine (Below.heap_setCell _ _ _ _ (fun e2 => ?_)).trans rfl
                have h := rows_apart hx k3.1 (by decide) e
                simp only [Value.ownBlock] at h
                exact h (by rw [e2]))
              have HY1 := Lib.hid (apart m4)
              have HP1 := Lib.hid (fun x hx => (⟨apart (m5 x hx).1, (m5 x hx).2⟩ : OwnT W1 w.heap.size x ∧ ∀ k, x.val.ownBlock = some k → k < mB))
              have HM5 := Lib.hid (own_cell hrow1 (j := p.length * 5 + 4) (u := .slice ta0 tl0 tc0) (by rw [List.getElem?_append_right (by rw [flat_len]; omega), flat_len, show p.length * 5 + 4 - p.length * 5 = 4 from by omega]; rfl))
              have c4' : W1.cell? ⟨g, P * 5 + 4, none⟩ = some (.slice ta0 tl0 tc0) := by rw [← hP]; exact HM5.out.1
              have HR1 := Lib.hid hrow1
              have HBW1 : Hid (Below w.heap.size w W1) := by
                show Below _ _ _
                rw [← hW1]
                exact (bdrewN HBW.out _).setCell (p := ⟨g, P * 5 + 1, none⟩) ((k3.1.lt g rfl).1) _
              have htl : tl0 ≤ 200000 := by
                have h1 := k3.2.2.1 ⟨⟨f, j, c, d⟩, ta0, tl0, tc0, tx0⟩ (by simp)
                have h2 := m4.1
                have h3 := textM_len (line := line) (tab := tab) (u := ⟨f, j, c, d⟩) hT (by rw [HLL.out]; exact Nat.le_of_lt hlt) (HE5.out.2.2.2.2.1)
                simp only at h1 h2
                rw [List.length_map, h1] at h2
                rw [HLL.out] at h3
                omega
              have HTXE := Lib.hid (k3.2.2.1 ⟨⟨f, j, c, d⟩, ta0, tl0, tc0, tx0⟩ (by simp))
              have HTP := Lib.hid (fun x (hx : x ∈ p) => k3.2.2.1 x (by simp [hx]))
              have hgn := (k3.1.lt g rfl).1
              have HGN := Lib.hid hgn
              have HMB := Lib.hid m1
              have hmb2 : mB ≤ W1.heap.size := by rw [s1]; exact m2
              have HQ1 := Lib.hid k1
              clear c0 c1 c4 f1 cj hrow0 hrow1 m1 m2 m3 m4 m5 k1 k2 k3 hW1 apart hgn s1
              go_wp2_with (at_builtin; go_must (refine wpList_append_own _ rfl (.tmp 82) (.tmp 84) 24 rfl mB 21 ir (.int .i32 0) 1 4 Tryd.underlying24 hir hr0 hr1 hr2 rfl (by decide) (.slice ta0 tl0 tc0) tl0 (tx0.map (Value.int .i32)) rfl (World.ownsRow.alloc HY1.out _) ⟨W1.heap.size, 0, none⟩ 1 1 [.int .i32 r] rfl rfl (news_one _ _ _) (by simp [Value.oneCell']) (by unfold maxLen; omega) (by omega) (by simp; omega) ?_); intro v' w4 hown' hgrow _; obtain ⟨ta2, tc2, rfl⟩ := own_slice hown'; have hrow4 := own_block HR1.out (fun k e => (hgrow.block k (by have := (HR1.out.lt k e).2; simp; omega) (rows_apart HR1.out HY1.out (by decide) e)).trans (Below.heap_alloc _ _ _ (HR1.out.lt k e).2)); have hcc := own_cell hrow4 (j := p.length * 5 + 4) (u := .slice ta0 tl0 tc0) (by rw [List.getElem?_append_right (by rw [flat_len]; omega), flat_len, show p.length * 5 + 4 - p.length * 5 = 4 from by omega]; rfl); rw [hP] at hcc; obtain ⟨cc4, ff4⟩ := hcc; have HO4 := Lib.hid hown'; have HG4 := Lib.hid hgrow; clear hown' hgrow hrow4)
              go_roundw
              case rel =>
                have hjn := HJN.out
                have hue := HUE.out
                have hrg := RG.join (line := line) (tab := tab) (n0 := w.heap.size) (i := j) (mB := mB) (p := p) (y := ⟨⟨f, j, c, d⟩, ta0, tl0, tc0, tx0⟩) (y' := ⟨⟨f, j + 1, c, d⟩, ta2, tl0 + 1, tc2, tx0 ++ [r]⟩) (v' := .slice ta2 (tl0 + 1) tc2) HR1.out hue HTP.out hjn (by rw [HLL.out]; exact hlt) HMB.out HY1.out HP1.out hmb2 HG4.out rfl
                  (by have h := HO4.out; show OwnT _ _ _; unfold OwnT; simp only [List.map_append, List.map_cons, List.map_nil]; exact h) rfl (by simp only; rw [HRR.out]) HTXE.out rfl
                rw [hP] at hrg
                refine ⟨j + 1, q, n, ck, some ⟨g, 0, none⟩, p ++ [(⟨⟨f, j + 1, c, d⟩, ta2, tl0 + 1, tc2, tx0 ++ [r]⟩ : UV)], by omega, by go_num, rfl, rfl, by omega, by omega, ⟨?_, ?_, hrg⟩, ?_⟩
                · have h1 := HQ1.out
                  rw [← hue, endCol_snoc] at h1
                  rw [unitsN_succ, ← hue, stepU_join (by rw [hue]; exact hjn), endCol_snoc]
                  exact h1
                · rw [HNP.out]; simp [hP]
                · exact ((HBW1.out.alloc (by have := HBW1.out.size; omega) _).grown HG4.out (by have := HBW1.out.size; simp; omega) (fun k e => by have := (World.ownsRow.lt HY1.out k e).1; have := HMB.out; omega)).setCell (p := ⟨g, P * 5 + 4, none⟩) HGN.out _
              case measure => simp [intOf]; omega
            · have HJN : Hid (joins line (unitsN line tab j) j = false) := by show _ = _; rw [HJO.out, hzc]; simp; intros; omega
              clear hzc hmk
              go_wp2_with (first
                | (go_at_call 27; refine (zero_any _ _).mono ?_; rintro e w' ⟨rfl, rfl⟩)
                | (go_at_call 11; refine (rwidth_is r 0 _ HW0).mono ?_; rintro e w' ⟨rfl, rfl⟩)
                | (go_at_call 14; refine (rshow_own r _).mono ?_; rintro e w2 ⟨tv, rfl, hown2, hb2⟩; obtain ⟨ta, tc, rfl⟩ := own_slice hown2; have HB2 : Hid (Below wq.heap.size wq w2) := (bdrewN (Below.refl _ wq) _).trans hb2; clear hown2 hb2))
              go_quiet (fail)
              go_upto_region 27 with (first
                | (go_at_call 27; refine (zero_any _ _).mono ?_; rintro e w' ⟨rfl, rfl⟩)
                | (go_at_call 11; refine (rwidth_is r 0 _ HW0).mono ?_; rintro e w' ⟨rfl, rfl⟩)
                | (go_at_call 14; refine (rshow_own r _).mono ?_; rintro e w2 ⟨tv, rfl, hown2, hb2⟩; obtain ⟨ta, tc, rfl⟩ := own_slice hown2; have HB2 : Hid (Below wq.heap.size wq w2) := (bdrewN (Below.refl _ wq) _).trans hb2; clear hown2 hb2))
              obtain ⟨X, hX⟩ : ∃ X, ((w2.alloc (.cells #[.int .i64 (j : Nat), .int .i64 ((j : Int) + 1), .int .i64 (q : Nat), .int .i64 1, .slice (some ⟨w2.heap.size + 1, 0, none⟩) 2 2] 39)).alloc (.cells #[.int .i32 32, .int .i32 r] 21)) = X := ⟨_, rfl⟩
              rw [hX]
              have hbX : Below wq.heap.size wq X := by
                rw [← hX]
                exact ((HB2.out.alloc HB2.out.size _).alloc (by have := HB2.out.size; simp; omega) _)
              have hxs : w2.heap.size < X.heap.size := by rw [← hX]; simp only [World.size_alloc]; omega
              have hbox : X.heap[w2.heap.size]? = some (.cells #[.int .i64 (j : Nat), .int .i64 ((j : Int) + 1), .int .i64 (q : Nat), .int .i64 1, .slice (some ⟨w2.heap.size + 1, 0, none⟩) 2 2] 39 (0, 0)) := by
                rw [← hX]
                exact (Below.heap_alloc _ _ _ (by simp)).trans (heap_alloc_new w2 _)
              have d0 : X.cell? ⟨w2.heap.size, 0, none⟩ = some (.int .i64 (j : Nat)) := by simp [World.cell?, hbox]
              have d1 : X.cell? ⟨w2.heap.size, 1, none⟩ = some (.int .i64 ((j : Int) + 1)) := by simp [World.cell?, hbox]
              have d2 : X.cell? ⟨w2.heap.size, 2, none⟩ = some (.int .i64 (q : Nat)) := by simp [World.cell?, hbox]
              have d3 : X.cell? ⟨w2.heap.size, 3, none⟩ = some (.int .i64 1) := by simp [World.cell?, hbox]
              have d4 : X.cell? ⟨w2.heap.size, 4, none⟩ = some (.slice (some ⟨w2.heap.size + 1, 0, none⟩) 2 2) := by simp [World.cell?, hbox]
              obtain ⟨y, hy⟩ : ∃ y : UV, y = ⟨⟨j, j + 1, q, 1⟩, (some ⟨w2.heap.size + 1, 0, none⟩), 2, 2, [32, r]⟩ := ⟨_, rfl⟩
              have hyc : y.cells = [.int .i64 (j : Nat), .int .i64 ((j : Int) + 1), .int .i64 (q : Nat), .int .i64 1, .slice (some ⟨w2.heap.size + 1, 0, none⟩) 2 2] := by rw [hy]; rfl
              have HOY : Hid (OwnT X w2.heap.size y) := by
                show OwnT _ _ _
                rw [hy]
                rw [← hX]
                refine own_of_row (g := w2.heap.size + 1) (cs := [.int .i32 32, .int .i32 r]) ?_ (by omega) ⟨rfl, rfl⟩ (by show 2 ≤ _; unfold maxLen; omega)
                have h := heap_alloc_new (w2.alloc (.cells #[.int .i64 (j : Nat), .int .i64 ((j : Int) + 1), .int .i64 (q : Nat), .int .i64 1, .slice (some ⟨w2.heap.size + 1, 0, none⟩) 2 2] 39)) (.cells #[.int .i32 32, .int .i32 r] 21)
                rw [World.size_alloc] at h
                exact h
              have HYU : Hid (y.u = newU line tab (unitsN line tab j) j) := by rw [hy]; exact HNEW.out.symm
              have HYT : Hid (y.tx = textM line y.u) := by rw [hy]; exact HTX.out.symm
              have hnews := news_cells X y 39
              rw [hyc] at hnews
              obtain ⟨k1, k2, k3⟩ := hRG.out
              have HROW := Lib.hid (k3.below hbX).1
              have hwb : w2.heap.size < X.heap.size := hxs
              have hws2 := HB2.out.size
              have HNE : Hid (some w2.heap.size ≠ (Value.slice (some ⟨g, 0, none⟩) n ck).ownBlock) := fun e => by have := (k3.1.lt _ e.symm).2; omega
              have HK3 := Lib.hid k3
              have hvl : vs.length = n := by first | exact k2.symm | omega
              have HVL := Lib.hid hvl
              have HBX := Lib.hid hbX
              have HN := Lib.hid hnews
              have HYC := Lib.hid hyc
              have HBOX := Lib.hid hbox
              have hQ := k1
              have HQ := Lib.hid hQ
              clear k1 k2 k3 hnews hyc hy hX hbX hbox hvl hQ
              go_wp2_with (at_builtin; refine wpList_append_own _ rfl (.tmp 123) (.tmp 125) 29 rfl w.heap.size 39 i0 _ 5 56 Tryd.underlying29 hi hz0 hz1 hz2 rfl (by decide) _ vs.length (flat vs) rfl (HROW.out.alloc _) ⟨X.heap.size, 0, none⟩ 1 1 [.int .i64 (j : Nat), .int .i64 ((j : Int) + 1), .int .i64 (q : Nat), .int .i64 1, .slice (some ⟨w2.heap.size + 1, 0, none⟩) 2 2] rfl rfl HN.out (by simp [Value.oneCell']) (by have := HVL.out; unfold maxLen; omega) (by have := HVL.out; omega) (by have := HBX.out.size; simp; omega) ?_; intro v' w4 hown' hgrow _; have d3' : w4.cell? ⟨w2.heap.size, 3, none⟩ = some (.int .i64 1) := (by rw [World.cell?_of_block (w := X) (a := ⟨w2.heap.size, 3, none⟩) ((hgrow.block _ (by simp; omega) HNE.out).trans (Below.heap_alloc _ _ _ hwb))]; simp [World.cell?, HBOX.out]); obtain ⟨g', cap', rfl⟩ := ownsRow_succ hown'; have HO' := Lib.hid hown'; have HGR := Lib.hid hgrow; clear hown' hgrow)
              go_roundw
              case rel =>
                have hvl := HVL.out
                refine ⟨j + 1, q + 1, vs.length + 1, cap', some ⟨g', 0, none⟩, vs ++ [y], by omega, by go_num, by go_num, rfl, by omega, by omega, ⟨?_, by simp, ?_⟩, ?_⟩
                · rw [unitsN_succ, stepU_new HJN.out, endCol_snoc, HNEW.out]
                · exact HK3.out.push HJN.out HBX.out (by omega) HYU.out HYT.out hws2 (Nat.le_of_lt hwb) HOY.out HGR.out (by rw [HYC.out]; exact HO'.out)
                · exact ((HBW.out.trans (HBX.out.mono hws)).alloc (by have := HBX.out.size; omega) _).grown HGR.out (by have := HBX.out.size; simp; omega) (fun k e => (HROW.out.lt k e).1)
              case measure => simp [intOf]; omega

          · rw [if_neg hzf] at hzc
            rw [hzc] at hmk3
            replace hzf : zeroB rf = false := by simpa using hzf
            by_cases hm2 : mk ≤ 2
            · have HJN : Hid (joins line (unitsN line tab j) j = true) := by show _ = _; rw [HJO.out, hzc]; simp [h9f]; omega
              clear hzc hmk
              go_wp2_with (first
                | (go_at_call 27; refine (zero_any _ _).mono ?_; rintro e w' ⟨rfl, rfl⟩)
                | (go_at_call 11; refine (rwidth_is r 0 _ HW0).mono ?_; rintro e w' ⟨rfl, rfl⟩)
                | (go_at_call 14; refine (rshow_own r _).mono ?_; rintro e w2 ⟨tv, rfl, hown2, hb2⟩; obtain ⟨ta, tc, rfl⟩ := own_slice hown2; have HB2 : Hid (Below wq.heap.size wq w2) := (bdrewN (Below.refl _ wq) _).trans hb2; clear hown2 hb2))
              go_quiet (fail)
              go_upto_region 15 with (first
                | (go_at_call 27; refine (zero_any _ _).mono ?_; rintro e w' ⟨rfl, rfl⟩)
                | (go_at_call 11; refine (rwidth_is r 0 _ HW0).mono ?_; rintro e w' ⟨rfl, rfl⟩)
                | (go_at_call 14; refine (rshow_own r _).mono ?_; rintro e w2 ⟨tv, rfl, hown2, hb2⟩; obtain ⟨ta, tc, rfl⟩ := own_slice hown2; have HB2 : Hid (Below wq.heap.size wq w2) := (bdrewN (Below.refl _ wq) _).trans hb2; clear hown2 hb2))
              obtain ⟨W1, hW1⟩ : ∃ W1, (wq.drewN nq).setCell ⟨g, P * 5 + 1, none⟩ (.int .i64 ((j : Int) + 1)) = W1 := ⟨_, rfl⟩
              rw [hW1]
              obtain ⟨k1, k2, k3⟩ := hRG.out
              rw [HVS.out] at k2 k3
              obtain ⟨mB, m1, m2, m3⟩ := k3.2.2.2
              obtain ⟨m4, m5⟩ := m3 p _ rfl
              have s1 : W1.heap.size = wq.heap.size := by rw [← hW1]; simp [World.setCell]
              have hrow0 : (wq.drewN nq).ownsRow w.heap.size 39 5 (.slice (some ⟨g, 0, none⟩) n ck) (p.length + 1) (flat (p ++ [⟨⟨f, j, c, d⟩, ta0, tl0, tc0, tx0⟩])) := by
                have h := k3.1
                rw [List.length_append] at h
                exact h
              have hrow1 := own_set hrow0 (j := P * 5 + 1) (by rw [flat_len, ← hP]; simp; omega) (.int .i64 ((j : Int) + 1))
              rw [← hP, flat_set p _ 1 _ (by omega)] at hrow1
              rw [← hP] at hW1
              rw [hW1] at hrow1
              rw [hP] at hW1
              have apart : ∀ {B : Nat} {x : UV}, OwnT wq B x → OwnT W1 B x := fun hx => own_block hx (fun k e => by
                rw [← hW1]
                refine (Below.heap_setCell _ _ _ _ (fun e2 => ?_)).trans rfl
                have h := rows_apart hx k3.1 (by decide) e
                simp only [Value.ownBlock] at h
                exact h (by rw [e2]))
              have HY1 := Lib.hid (apart m4)
              have HP1 := Lib.hid (fun x hx => (⟨apart (m5 x hx).1, (m5 x hx).2⟩ : OwnT W1 w.heap.size x ∧ ∀ k, x.val.ownBlock = some k → k < mB))
              have HM5 := Lib.hid (own_cell hrow1 (j := p.length * 5 + 4) (u := .slice ta0 tl0 tc0) (by rw [List.getElem?_append_right (by rw [flat_len]; omega), flat_len, show p.length * 5 + 4 - p.length * 5 = 4 from by omega]; rfl))
              have c4' : W1.cell? ⟨g, P * 5 + 4, none⟩ = some (.slice ta0 tl0 tc0) := by rw [← hP]; exact HM5.out.1
              have HR1 := Lib.hid hrow1
              have HBW1 : Hid (Below w.heap.size w W1) := by
                show Below _ _ _
                rw [← hW1]
                exact (bdrewN HBW.out _).setCell (p := ⟨g, P * 5 + 1, none⟩) ((k3.1.lt g rfl).1) _
              have htl : tl0 ≤ 200000 := by
                have h1 := k3.2.2.1 ⟨⟨f, j, c, d⟩, ta0, tl0, tc0, tx0⟩ (by simp)
                have h2 := m4.1
                have h3 := textM_len (line := line) (tab := tab) (u := ⟨f, j, c, d⟩) hT (by rw [HLL.out]; exact Nat.le_of_lt hlt) (HE5.out.2.2.2.2.1)
                simp only at h1 h2
                rw [List.length_map, h1] at h2
                rw [HLL.out] at h3
                omega
              have HTXE := Lib.hid (k3.2.2.1 ⟨⟨f, j, c, d⟩, ta0, tl0, tc0, tx0⟩ (by simp))
              have HTP := Lib.hid (fun x (hx : x ∈ p) => k3.2.2.1 x (by simp [hx]))
              have hgn := (k3.1.lt g rfl).1
              have HGN := Lib.hid hgn
              have HMB := Lib.hid m1
              have hmb2 : mB ≤ W1.heap.size := by rw [s1]; exact m2
              have HQ1 := Lib.hid k1
              clear c0 c1 c4 f1 cj hrow0 hrow1 m1 m2 m3 m4 m5 k1 k2 k3 hW1 apart hgn s1
              go_wp2_with (at_builtin; go_must (refine wpList_append_own _ rfl (.tmp 82) (.tmp 84) 24 rfl mB 21 ir (.int .i32 0) 1 4 Tryd.underlying24 hir hr0 hr1 hr2 rfl (by decide) (.slice ta0 tl0 tc0) tl0 (tx0.map (Value.int .i32)) rfl (World.ownsRow.alloc HY1.out _) ⟨W1.heap.size, 0, none⟩ 1 1 [.int .i32 r] rfl rfl (news_one _ _ _) (by simp [Value.oneCell']) (by unfold maxLen; omega) (by omega) (by simp; omega) ?_); intro v' w4 hown' hgrow _; obtain ⟨ta2, tc2, rfl⟩ := own_slice hown'; have hrow4 := own_block HR1.out (fun k e => (hgrow.block k (by have := (HR1.out.lt k e).2; simp; omega) (rows_apart HR1.out HY1.out (by decide) e)).trans (Below.heap_alloc _ _ _ (HR1.out.lt k e).2)); have hcc := own_cell hrow4 (j := p.length * 5 + 4) (u := .slice ta0 tl0 tc0) (by rw [List.getElem?_append_right (by rw [flat_len]; omega), flat_len, show p.length * 5 + 4 - p.length * 5 = 4 from by omega]; rfl); rw [hP] at hcc; obtain ⟨cc4, ff4⟩ := hcc; have HO4 := Lib.hid hown'; have HG4 := Lib.hid hgrow; clear hown' hgrow hrow4)
              go_roundw
              case rel =>
                have hjn := HJN.out
                have hue := HUE.out
                have hrg := RG.join (line := line) (tab := tab) (n0 := w.heap.size) (i := j) (mB := mB) (p := p) (y := ⟨⟨f, j, c, d⟩, ta0, tl0, tc0, tx0⟩) (y' := ⟨⟨f, j + 1, c, d⟩, ta2, tl0 + 1, tc2, tx0 ++ [r]⟩) (v' := .slice ta2 (tl0 + 1) tc2) HR1.out hue HTP.out hjn (by rw [HLL.out]; exact hlt) HMB.out HY1.out HP1.out hmb2 HG4.out rfl
                  (by have h := HO4.out; show OwnT _ _ _; unfold OwnT; simp only [List.map_append, List.map_cons, List.map_nil]; exact h) rfl (by simp only; rw [HRR.out]) HTXE.out rfl
                rw [hP] at hrg
                refine ⟨j + 1, q, n, ck, some ⟨g, 0, none⟩, p ++ [(⟨⟨f, j + 1, c, d⟩, ta2, tl0 + 1, tc2, tx0 ++ [r]⟩ : UV)], by omega, by go_num, rfl, rfl, by omega, by omega, ⟨?_, ?_, hrg⟩, ?_⟩
                · have h1 := HQ1.out
                  rw [← hue, endCol_snoc] at h1
                  rw [unitsN_succ, ← hue, stepU_join (by rw [hue]; exact hjn), endCol_snoc]
                  exact h1
                · rw [HNP.out]; simp [hP]
                · exact ((HBW1.out.alloc (by have := HBW1.out.size; omega) _).grown HG4.out (by have := HBW1.out.size; simp; omega) (fun k e => by have := (World.ownsRow.lt HY1.out k e).1; have := HMB.out; omega)).setCell (p := ⟨g, P * 5 + 4, none⟩) HGN.out _
              case measure => simp [intOf]; omega
            · have HJN : Hid (joins line (unitsN line tab j) j = false) := by show _ = _; rw [HJO.out, hzc]; simp; intros; omega
              clear hzc hmk
              go_wp2_with (first
                | (go_at_call 27; refine (zero_any _ _).mono ?_; rintro e w' ⟨rfl, rfl⟩)
                | (go_at_call 11; refine (rwidth_is r 0 _ HW0).mono ?_; rintro e w' ⟨rfl, rfl⟩)
                | (go_at_call 14; refine (rshow_own r _).mono ?_; rintro e w2 ⟨tv, rfl, hown2, hb2⟩; obtain ⟨ta, tc, rfl⟩ := own_slice hown2; have HB2 : Hid (Below wq.heap.size wq w2) := (bdrewN (Below.refl _ wq) _).trans hb2; clear hown2 hb2))
              go_quiet (fail)
              go_upto_region 27 with (first
                | (go_at_call 27; refine (zero_any _ _).mono ?_; rintro e w' ⟨rfl, rfl⟩)
                | (go_at_call 11; refine (rwidth_is r 0 _ HW0).mono ?_; rintro e w' ⟨rfl, rfl⟩)
                | (go_at_call 14; refine (rshow_own r _).mono ?_; rintro e w2 ⟨tv, rfl, hown2, hb2⟩; obtain ⟨ta, tc, rfl⟩ := own_slice hown2; have HB2 : Hid (Below wq.heap.size wq w2) := (bdrewN (Below.refl _ wq) _).trans hb2; clear hown2 hb2))
              obtain ⟨X, hX⟩ : ∃ X, ((w2.alloc (.cells #[.int .i64 (j : Nat), .int .i64 ((j : Int) + 1), .int .i64 (q : Nat), .int .i64 1, .slice (some ⟨w2.heap.size + 1, 0, none⟩) 2 2] 39)).alloc (.cells #[.int .i32 32, .int .i32 r] 21)) = X := ⟨_, rfl⟩
              rw [hX]
              have hbX : Below wq.heap.size wq X := by
                rw [← hX]
                exact ((HB2.out.alloc HB2.out.size _).alloc (by have := HB2.out.size; simp; omega) _)
              have hxs : w2.heap.size < X.heap.size := by rw [← hX]; simp only [World.size_alloc]; omega
              have hbox : X.heap[w2.heap.size]? = some (.cells #[.int .i64 (j : Nat), .int .i64 ((j : Int) + 1), .int .i64 (q : Nat), .int .i64 1, .slice (some ⟨w2.heap.size + 1, 0, none⟩) 2 2] 39 (0, 0)) := by
                rw [← hX]
                exact (Below.heap_alloc _ _ _ (by simp)).trans (heap_alloc_new w2 _)
              have d0 : X.cell? ⟨w2.heap.size, 0, none⟩ = some (.int .i64 (j : Nat)) := by simp [World.cell?, hbox]
              have d1 : X.cell? ⟨w2.heap.size, 1, none⟩ = some (.int .i64 ((j : Int) + 1)) := by simp [World.cell?, hbox]
              have d2 : X.cell? ⟨w2.heap.size, 2, none⟩ = some (.int .i64 (q : Nat)) := by simp [World.cell?, hbox]
              have d3 : X.cell? ⟨w2.heap.size, 3, none⟩ = some (.int .i64 1) := by simp [World.cell?, hbox]
              have d4 : X.cell? ⟨w2.heap.size, 4, none⟩ = some (.slice (some ⟨w2.heap.size + 1, 0, none⟩) 2 2) := by simp [World.cell?, hbox]
              obtain ⟨y, hy⟩ : ∃ y : UV, y = ⟨⟨j, j + 1, q, 1⟩, (some ⟨w2.heap.size + 1, 0, none⟩), 2, 2, [32, r]⟩ := ⟨_, rfl⟩
              have hyc : y.cells = [.int .i64 (j : Nat), .int .i64 ((j : Int) + 1), .int .i64 (q : Nat), .int .i64 1, .slice (some ⟨w2.heap.size + 1, 0, none⟩) 2 2] := by rw [hy]; rfl
              have HOY : Hid (OwnT X w2.heap.size y) := by
                show OwnT _ _ _
                rw [hy]
                rw [← hX]
                refine own_of_row (g := w2.heap.size + 1) (cs := [.int .i32 32, .int .i32 r]) ?_ (by omega) ⟨rfl, rfl⟩ (by show 2 ≤ _; unfold maxLen; omega)
                have h := heap_alloc_new (w2.alloc (.cells #[.int .i64 (j : Nat), .int .i64 ((j : Int) + 1), .int .i64 (q : Nat), .int .i64 1, .slice (some ⟨w2.heap.size + 1, 0, none⟩) 2 2] 39)) (.cells #[.int .i32 32, .int .i32 r] 21)
                rw [World.size_alloc] at h
                exact h
              have HYU : Hid (y.u = newU line tab (unitsN line tab j) j) := by rw [hy]; exact HNEW.out.symm
              have HYT : Hid (y.tx = textM line y.u) := by rw [hy]; exact HTX.out.symm
              have hnews := news_cells X y 39
              rw [hyc] at hnews
              obtain ⟨k1, k2, k3⟩ := hRG.out
              have HROW := Lib.hid (k3.below hbX).1
              have hwb : w2.heap.size < X.heap.size := hxs
              have hws2 := HB2.out.size
              have HNE : Hid (some w2.heap.size ≠ (Value.slice (some ⟨g, 0, none⟩) n ck).ownBlock) := fun e => by have := (k3.1.lt _ e.symm).2; omega
              have HK3 := Lib.hid k3
              have hvl : vs.length = n := by first | exact k2.symm | omega
              have HVL := Lib.hid hvl
              have HBX := Lib.hid hbX
              have HN := Lib.hid hnews
              have HYC := Lib.hid hyc
              have HBOX := Lib.hid hbox
              have hQ := k1
              have HQ := Lib.hid hQ
              clear k1 k2 k3 hnews hyc hy hX hbX hbox hvl hQ
              go_wp2_with (at_builtin; refine wpList_append_own _ rfl (.tmp 123) (.tmp 125) 29 rfl w.heap.size 39 i0 _ 5 56 Tryd.underlying29 hi hz0 hz1 hz2 rfl (by decide) _ vs.length (flat vs) rfl (HROW.out.alloc _) ⟨X.heap.size, 0, none⟩ 1 1 [.int .i64 (j : Nat), .int .i64 ((j : Int) + 1), .int .i64 (q : Nat), .int .i64 1, .slice (some ⟨w2.heap.size + 1, 0, none⟩) 2 2] rfl rfl HN.out (by simp [Value.oneCell']) (by have := HVL.out; unfold maxLen; omega) (by have := HVL.out; omega) (by have := HBX.out.size; simp; omega) ?_; intro v' w4 hown' hgrow _; have d3' : w4.cell? ⟨w2.heap.size, 3, none⟩ = some (.int .i64 1) := (by rw [World.cell?_of_block (w := X) (a := ⟨w2.heap.size, 3, none⟩) ((hgrow.block _ (by simp; omega) HNE.out).trans (Below.heap_alloc _ _ _ hwb))]; simp [World.cell?, HBOX.out]); obtain ⟨g', cap', rfl⟩ := ownsRow_succ hown'; have HO' := Lib.hid hown'; have HGR := Lib.hid hgrow; clear hown' hgrow)
              go_roundw
              case rel =>
                have hvl := HVL.out
                refine ⟨j + 1, q + 1, vs.length + 1, cap', some ⟨g', 0, none⟩, vs ++ [y], by omega, by go_num, by go_num, rfl, by omega, by omega, ⟨?_, by simp, ?_⟩, ?_⟩
                · rw [unitsN_succ, stepU_new HJN.out, endCol_snoc, HNEW.out]
                · exact HK3.out.push HJN.out HBX.out (by omega) HYU.out HYT.out hws2 (Nat.le_of_lt hwb) HOY.out HGR.out (by rw [HYC.out]; exact HO'.out)
                · exact ((HBW.out.trans (HBX.out.mono hws)).alloc (by have := HBX.out.size; omega) _).grown HGR.out (by have := HBX.out.size; simp; omega) (fun k e => (HROW.out.lt k e).1)
              case measure => simp [intOf]; omega

      · have HZ := Lib.hid (show zeroB r = false by simpa using hz)
        have HJN : Hid (joins line (unitsN line tab j) j = false) := by
          show joins _ _ _ = _
          unfold joins
          rw [HRR.out, HZ.out]; rfl
        obtain ⟨m, hm⟩ : ∃ m, (showM r).length = m := ⟨_, rfl⟩
        have HM : Hid ((showM r).length = m) := hm
        have hm2 : m ≤ 2 := by rw [← hm, show_len]; split <;> omega
        clear hz hm
        by_cases h9 : r = 9
        · subst h9
          obtain ⟨mm, hmm⟩ : ∃ mm, q % tab = mm := ⟨_, rfl⟩
          have hm1 : mm < tab := by rw [← hmm]; exact Nat.mod_lt _ (by omega)
          obtain ⟨wd, hwd⟩ : ∃ wd, tab - mm = wd := ⟨_, rfl⟩
          have hwd1 : 1 ≤ wd := by omega
          have hwd2 : wd ≤ 64 := by omega
          have hwde : (tab : Int) - (mm : Int) = (wd : Nat) := by omega
          have hrem : Int.tmod (q : Int) (tab : Int) = (mm : Int) := by rw [← hmm, Int.tmod_eq_emod_of_nonneg (by omega)]; simp
          have HTX : Hid (textM line ⟨j, j + 1, q, wd⟩ = List.replicate wd 32) := text_tab_new HRR.out
          have HNEW : Hid (newU line tab (unitsN line tab j) j = ⟨j, j + 1, q, wd⟩) := by
            have h := hRG.out.1
            show newU line tab (unitsN line tab j) j = _
            unfold newU width1
            rw [← h, HRR.out, if_pos rfl, hmm, hwd]
          have HW2 := Lib.hid (show widthM 9 = 2 by decide)
          have hT1 := hT.1
          have hT2 := hT.2
          clear hmm hwd
          go_wp2_with (first
            | (go_at_call 27; refine (zero_is 9 false _ HZ).mono ?_; rintro e w' ⟨rfl, rfl⟩)
            | (go_at_call 11; refine (rwidth_is 9 2 _ HW2).mono ?_; rintro e w' ⟨rfl, rfl⟩)
            | (go_at_call 14; refine (rshow_is 9 m _ HM).mono ?_; rintro e w2 ⟨ta, tc, rfl, hown2, hb2⟩; have HOWN2 := Lib.hid hown2; have HB2 := Lib.hid hb2; clear hown2 hb2))
          have hw2 := HB2.out.size
          go_loopw [12] (fun kk wx => ∃ (z tc : Nat) (ta : Option Addr), kk = .int .i64 z ∧ z ≤ wd ∧ Hid (wx.heap[w2.heap.size]? = some (.cells #[.int .i64 (j : Nat), .int .i64 ((j : Int) + 1), .int .i64 (q : Nat), .int .i64 (wd : Nat), .slice ta z tc] 39 (0, 0))) ∧
            Hid (wx.ownsRow (w2.heap.size + 1) 21 1 (.slice ta z tc) z ((List.replicate z (32 : Int)).map (Value.int .i32))) ∧ Hid (Below w2.heap.size w2 wx)) (fun kk _ => wd - (intOf kk).toNat)
          case atStart => exact ⟨0, 0, none, rfl, by omega, heap_alloc_new w2 _, World.ownsRow_nil _ _ _ _, (Below.refl _ w2).alloc (Nat.le_refl _) _⟩
          case round =>
            obtain ⟨z, tc', ta', rfl, hzw, HBOX0, HTO0, HBX0⟩ := hrel
            obtain ⟨wx, hwx⟩ : ∃ x, x = wr := ⟨wr, rfl⟩
            subst hwx
            have d3 : wx.cell? ⟨w2.heap.size, 3, none⟩ = some (.int .i64 (wd : Nat)) := by simp [World.cell?, HBOX0.out]
            have d4 : wx.cell? ⟨w2.heap.size, 4, none⟩ = some (.slice ta' z tc') := by simp [World.cell?, HBOX0.out]
            have hbl2 : w2.heap.size < wx.heap.size := (Array.getElem?_eq_some_iff.1 HBOX0.out).1
            by_cases hzl : z < wd
            · go_wp2_with (at_builtin; go_must (refine wpList_appNew rfl (.tmp 119) (.tmp 120) 24 rfl (w2.heap.size + 1) 21 ir (.int .i32 0) 4 Tryd.underlying24 hir hr0 hr1 hr2 rfl _ _ _ rfl HTO0.out #[.int .i32 32] 21 1 rfl rfl (by simp [Value.oneCell']) (by unfold maxLen; omega) (by omega) (by omega) ?_); intro v' w4 hown' hb4; have hbox4 := (hb4.block w2.heap.size (by omega)).trans HBOX0.out; have e4 : w4.cell? ⟨w2.heap.size, 4, none⟩ = some (.slice ta' z tc') := (by simp [World.cell?, hbox4]); have f4 : w4.frozen? ⟨w2.heap.size, 4, none⟩ = false := (by simp [World.frozen?, hbox4]); obtain ⟨ta2, tc2, rfl⟩ := own_slice hown'; have HO4 := Lib.hid hown'; have HB4 := Lib.hid hb4; have HX4 := Lib.hid hbox4; clear hown' hb4 hbox4)
              go_roundw
              case rel =>
                refine ⟨z + 1, tc2, ta2, by go_num, by omega, ?_, ?_, ?_⟩
                · have h := set_at HX4.out 4 (.slice ta2 (z + 1) tc2)
                  exact h
                · have h := HO4.out
                  rw [show ([Value.int .i32 32] : List Value) = [(32 : Int)].map (Value.int .i32) from rfl, ← List.map_append, show List.replicate z (32 : Int) ++ [32] = List.replicate (z + 1) 32 from (List.replicate_succ').symm] at h
                  exact own_block h (fun k e => Below.heap_setCell _ _ _ _ (by have := (h.lt k e).1; simp only; omega))
                · exact (HBX0.out.trans (HB4.out.mono (by omega))).setCell (p := ⟨w2.heap.size, 4, none⟩) (Nat.le_refl _) _
              case measure => simp [intOf]; omega
            · obtain rfl : wd = z := by omega
              clear d3 d4
              obtain ⟨X, hX⟩ : ∃ X, wx = X := ⟨_, rfl⟩
              rw [hX]
              have hbX : Below wq.heap.size wq X := by
                rw [← hX]
                exact HB2.out.trans (HBX0.out.mono HB2.out.size)
              have hxs : w2.heap.size < X.heap.size := by rw [← hX]; exact (Array.getElem?_eq_some_iff.1 HBOX0.out).1
              have hbox : X.heap[w2.heap.size]? = some (.cells #[.int .i64 (j : Nat), .int .i64 ((j : Int) + 1), .int .i64 (q : Nat), .int .i64 (wd : Nat), .slice ta' wd tc'] 39 (0, 0)) := by
                rw [← hX]
                exact HBOX0.out
              have d0 : X.cell? ⟨w2.heap.size, 0, none⟩ = some (.int .i64 (j : Nat)) := by simp [World.cell?, hbox]
              have d1 : X.cell? ⟨w2.heap.size, 1, none⟩ = some (.int .i64 ((j : Int) + 1)) := by simp [World.cell?, hbox]
              have d2 : X.cell? ⟨w2.heap.size, 2, none⟩ = some (.int .i64 (q : Nat)) := by simp [World.cell?, hbox]
              have d3 : X.cell? ⟨w2.heap.size, 3, none⟩ = some (.int .i64 (wd : Nat)) := by simp [World.cell?, hbox]
              have d4 : X.cell? ⟨w2.heap.size, 4, none⟩ = some (.slice ta' wd tc') := by simp [World.cell?, hbox]
              obtain ⟨y, hy⟩ : ∃ y : UV, y = ⟨⟨j, j + 1, q, wd⟩, ta', wd, tc', (List.replicate wd 32)⟩ := ⟨_, rfl⟩
              have hyc : y.cells = [.int .i64 (j : Nat), .int .i64 ((j : Int) + 1), .int .i64 (q : Nat), .int .i64 (wd : Nat), .slice ta' wd tc'] := by rw [hy]; rfl
              have HOY : Hid (OwnT X w2.heap.size y) := by
                show OwnT _ _ _
                rw [hy]
                rw [← hX]
                exact own_mono HTO0.out (by omega)
              have HYU : Hid (y.u = newU line tab (unitsN line tab j) j) := by rw [hy]; exact HNEW.out.symm
              have HYT : Hid (y.tx = textM line y.u) := by rw [hy]; exact HTX.out.symm
              have hnews := news_cells X y 39
              rw [hyc] at hnews
              obtain ⟨k1, k2, k3⟩ := hRG.out
              have HROW := Lib.hid (k3.below hbX).1
              have hwb : w2.heap.size < X.heap.size := hxs
              have hws2 := HB2.out.size
              have HNE : Hid (some w2.heap.size ≠ (Value.slice ak n ck).ownBlock) := fun e => by have := (k3.1.lt _ e.symm).2; omega
              have HK3 := Lib.hid k3
              have hvl : vs.length = n := by first | exact k2.symm | omega
              have HVL := Lib.hid hvl
              have HBX := Lib.hid hbX
              have HN := Lib.hid hnews
              have HYC := Lib.hid hyc
              have HBOX := Lib.hid hbox
              have hQ := k1
              have HQ := Lib.hid hQ
              clear k1 k2 k3 hnews hyc hy hX hbX hbox hvl hQ
              go_wp2_with (at_builtin; refine wpList_append_own _ rfl (.tmp 123) (.tmp 125) 29 rfl w.heap.size 39 i0 _ 5 56 Tryd.underlying29 hi hz0 hz1 hz2 rfl (by decide) _ vs.length (flat vs) rfl (HROW.out.alloc _) ⟨X.heap.size, 0, none⟩ 1 1 [.int .i64 (j : Nat), .int .i64 ((j : Int) + 1), .int .i64 (q : Nat), .int .i64 (wd : Nat), .slice ta' wd tc'] rfl rfl HN.out (by simp [Value.oneCell']) (by have := HVL.out; unfold maxLen; omega) (by have := HVL.out; omega) (by have := HBX.out.size; simp; omega) ?_; intro v' w4 hown' hgrow _; have d3' : w4.cell? ⟨w2.heap.size, 3, none⟩ = some (.int .i64 (wd : Nat)) := (by rw [World.cell?_of_block (w := X) (a := ⟨w2.heap.size, 3, none⟩) ((hgrow.block _ (by simp; omega) HNE.out).trans (Below.heap_alloc _ _ _ hwb))]; simp [World.cell?, HBOX.out]); obtain ⟨g', cap', rfl⟩ := ownsRow_succ hown'; have HO' := Lib.hid hown'; have HGR := Lib.hid hgrow; clear hown' hgrow)
              go_roundw
              case rel =>
                have hvl := HVL.out
                refine ⟨j + 1, q + wd, vs.length + 1, cap', some ⟨g', 0, none⟩, vs ++ [y], by omega, by go_num, by go_num, rfl, by omega, by omega, ⟨?_, by simp, ?_⟩, ?_⟩
                · rw [unitsN_succ, stepU_new HJN.out, endCol_snoc, HNEW.out]
                · exact HK3.out.push HJN.out HBX.out (by omega) HYU.out HYT.out hws2 (Nat.le_of_lt hwb) HOY.out HGR.out (by rw [HYC.out]; exact HO'.out)
                · exact ((HBW.out.trans (HBX.out.mono hws)).alloc (by have := HBX.out.size; omega) _).grown HGR.out (by have := HBX.out.size; simp; omega) (fun k e => (HROW.out.lt k e).1)
              case measure => simp [intOf]; omega

        · obtain ⟨wd, hwd⟩ : ∃ wd, widthM r = wd := ⟨_, rfl⟩
          have HWD : Hid (widthM r = wd) := hwd
          have hwd2 : wd ≤ 2 := by rw [← hwd]; exact widthM_le r
          have HTX : Hid (textM line ⟨j, j + 1, q, wd⟩ = showM r) := by
            have h := text_rest_new (line := line) (i := j) (c := q) (d := wd) (by rw [HRR.out]; exact h9) (by rw [HRR.out]; exact HZ.out)
            rw [HRR.out] at h
            exact h
          have HNEW : Hid (newU line tab (unitsN line tab j) j = ⟨j, j + 1, q, wd⟩) := by
            have h := hRG.out.1
            show newU line tab (unitsN line tab j) j = _
            unfold newU width1
            rw [← h, HRR.out, if_neg h9, if_neg (by rw [HZ.out]; simp), HWD.out]
          have h9' : (r == 9) = false := by simpa using h9
          clear hwd
          go_upto_region 27 with (first
            | (go_at_call 27; refine (zero_is r false _ HZ).mono ?_; rintro e w' ⟨rfl, rfl⟩)
            | (go_at_call 11; refine (rwidth_is r wd _ HWD).mono ?_; rintro e w' ⟨rfl, rfl⟩)
            | (go_at_call 14; refine (rshow_is r m _ HM).mono ?_; rintro e w2 ⟨ta, tc, rfl, hown2, hb2⟩; have HOWN2 := Lib.hid hown2; have HB2 := Lib.hid hb2; clear hown2 hb2))
          have hws2a := HB2.out.size
          obtain ⟨X, hX⟩ : ∃ X, (w2.alloc (.cells #[.int .i64 (j : Nat), .int .i64 ((j : Int) + 1), .int .i64 (q : Nat), .int .i64 (wd : Nat), .slice ta m tc] 39)) = X := ⟨_, rfl⟩
          rw [hX]
          have hbX : Below wq.heap.size wq X := by
            rw [← hX]
            exact HB2.out.alloc HB2.out.size _
          have hxs : w2.heap.size < X.heap.size := by rw [← hX]; simp only [World.size_alloc]; omega
          have hbox : X.heap[w2.heap.size]? = some (.cells #[.int .i64 (j : Nat), .int .i64 ((j : Int) + 1), .int .i64 (q : Nat), .int .i64 (wd : Nat), .slice ta m tc] 39 (0, 0)) := by
            rw [← hX]
            exact heap_alloc_new w2 _
          have d0 : X.cell? ⟨w2.heap.size, 0, none⟩ = some (.int .i64 (j : Nat)) := by simp [World.cell?, hbox]
          have d1 : X.cell? ⟨w2.heap.size, 1, none⟩ = some (.int .i64 ((j : Int) + 1)) := by simp [World.cell?, hbox]
          have d2 : X.cell? ⟨w2.heap.size, 2, none⟩ = some (.int .i64 (q : Nat)) := by simp [World.cell?, hbox]
          have d3 : X.cell? ⟨w2.heap.size, 3, none⟩ = some (.int .i64 (wd : Nat)) := by simp [World.cell?, hbox]
          have d4 : X.cell? ⟨w2.heap.size, 4, none⟩ = some (.slice ta m tc) := by simp [World.cell?, hbox]
          obtain ⟨y, hy⟩ : ∃ y : UV, y = ⟨⟨j, j + 1, q, wd⟩, ta, m, tc, (showM r)⟩ := ⟨_, rfl⟩
          have hyc : y.cells = [.int .i64 (j : Nat), .int .i64 ((j : Int) + 1), .int .i64 (q : Nat), .int .i64 (wd : Nat), .slice ta m tc] := by rw [hy]; rfl
          have HOY : Hid (OwnT X wq.heap.size y) := by
            show OwnT _ _ _
            rw [hy]
            rw [← hX]
            exact own_mono (HOWN2.out.alloc _) (by omega)
          have HYU : Hid (y.u = newU line tab (unitsN line tab j) j) := by rw [hy]; exact HNEW.out.symm
          have HYT : Hid (y.tx = textM line y.u) := by rw [hy]; exact HTX.out.symm
          have hnews := news_cells X y 39
          rw [hyc] at hnews
          obtain ⟨k1, k2, k3⟩ := hRG.out
          have HROW := Lib.hid (k3.below hbX).1
          have hwb : w2.heap.size < X.heap.size := hxs
          have hws2 := HB2.out.size
          have HNE : Hid (some w2.heap.size ≠ (Value.slice ak n ck).ownBlock) := fun e => by have := (k3.1.lt _ e.symm).2; omega
          have HK3 := Lib.hid k3
          have hvl : vs.length = n := by first | exact k2.symm | omega
          have HVL := Lib.hid hvl
          have HBX := Lib.hid hbX
          have HN := Lib.hid hnews
          have HYC := Lib.hid hyc
          have HBOX := Lib.hid hbox
          have hQ := k1
          have HQ := Lib.hid hQ
          clear k1 k2 k3 hnews hyc hy hX hbX hbox hvl hQ
          go_wp2_with (at_builtin; refine wpList_append_own _ rfl (.tmp 123) (.tmp 125) 29 rfl w.heap.size 39 i0 _ 5 56 Tryd.underlying29 hi hz0 hz1 hz2 rfl (by decide) _ vs.length (flat vs) rfl (HROW.out.alloc _) ⟨X.heap.size, 0, none⟩ 1 1 [.int .i64 (j : Nat), .int .i64 ((j : Int) + 1), .int .i64 (q : Nat), .int .i64 (wd : Nat), .slice ta m tc] rfl rfl HN.out (by simp [Value.oneCell']) (by have := HVL.out; unfold maxLen; omega) (by have := HVL.out; omega) (by have := HBX.out.size; simp; omega) ?_; intro v' w4 hown' hgrow _; have d3' : w4.cell? ⟨w2.heap.size, 3, none⟩ = some (.int .i64 (wd : Nat)) := (by rw [World.cell?_of_block (w := X) (a := ⟨w2.heap.size, 3, none⟩) ((hgrow.block _ (by simp; omega) HNE.out).trans (Below.heap_alloc _ _ _ hwb))]; simp [World.cell?, HBOX.out]); obtain ⟨g', cap', rfl⟩ := ownsRow_succ hown'; have HO' := Lib.hid hown'; have HGR := Lib.hid hgrow; clear hown' hgrow)
          go_roundw
          case rel =>
            have hvl := HVL.out
            refine ⟨j + 1, q + wd, vs.length + 1, cap', some ⟨g', 0, none⟩, vs ++ [y], by omega, by go_num, by go_num, rfl, by omega, by omega, ⟨?_, by simp, ?_⟩, ?_⟩
            · rw [unitsN_succ, stepU_new HJN.out, endCol_snoc, HNEW.out]
            · exact HK3.out.push HJN.out HBX.out (by omega) HYU.out HYT.out (Nat.le_refl _) HBX.out.size HOY.out HGR.out (by rw [HYC.out]; exact HO'.out)
            · exact ((HBW.out.trans (HBX.out.mono hws)).alloc (by have := HBX.out.size; omega) _).grown HGR.out (by have := HBX.out.size; simp; omega) (fun k e => (HROW.out.lt k e).1)
          case measure => simp [intOf]; omega

    · obtain rfl : j = len := by omega
      obtain ⟨k1, k2, k3⟩ := hRG.out
      go_wp2_with fail
      go_ret
      refine ⟨ak, n, ck, vs, rfl, ?_, ?_, k3.2.2.1, hbw⟩
      · refine RdU.own k3.1 (fun x hx => ⟨TX.all k3.2.2.2 x hx, fun r hr' => ?_⟩)
        rw [k3.2.2.1 x hx] at hr'
        exact textM_wf HR.out.2.2.2.1 _ r hr'
      · rw [k3.2.1, ← HLL.out]; rfl
end Go.Proofs.YthceooehndiglaaDoor.U
