/-
  The walk of CellParts.
-/
import Derived.Test.YthceooehndiglaaDoorCLaws4
namespace Go.Proofs.YthceooehndiglaaDoor.U
open Go.RowKit
set_option linter.unusedVariables false
set_option linter.unusedSimpArgs false

theorem lastTo_all {line : List Int} {tab : Nat} : lastTo (units line tab) = line.length := by
  have h := good line tab line.length
  by_cases h0 : line.length = 0
  · have := h.zero h0
    unfold units
    rw [this, h0]; rfl
  · obtain ⟨p, u, e, hto⟩ := h.last h0
    unfold units
    rw [e, lastTo_snoc, hto]
theorem textM_le {line : List Int} {tab : Nat} (ht : 1 ≤ tab ∧ tab ≤ 64) {u : Un} (h1 : u.to ≤ line.length) (h2 : u.wd = width1 line tab u.col u.fr) : (textM line u).length ≤ line.length + 64 := by
  have hw : u.wd ≤ 64 := by rw [h2]; exact width1_le ht
  have hs : (showM (rn line u.fr)).length ≤ 2 := by rw [show_len]; split <;> omega
  unfold textM
  split
  · simp; omega
  · split
    · simp; omega
    · simp; omega
theorem refValid_ok (x : Int) (w : World) (h : Hid (okR x)) :
    Calls Tryd.prog 25 #[.int .i32 x] w fun e w' => e = .returned (.bool true) ∧ w = w' := refValid_is x true w (by exact h.out.1)

set_option maxRecDepth 100000 in
set_option maxHeartbeats 4000000 in
theorem cellParts_walk (a : Option Addr) (len cap : Nat) (line : List Int) (t : Int) (w : World) (hr : Rd .i32 w a len cap line) (wt : (Lit.int .i64 t).wf = true) (hg : Gl w) :
    Calls Tryd.prog 6 #[.slice a len cap, .int .i64 t] w fun e w' => e = .returned (.bool true) ∧ Below w.heap.size w w' := by
  have hsm := hr.small
  by_cases hL : 1000 < len
  · clear hr hg
    go_enter Tryd.func6, Tryd.ntmps6
    go_wp2_with fail
    go_ret
    exact ⟨rfl, Below.refl _ _⟩
  obtain ⟨tab, htab⟩ : ∃ tab, tabM t = tab := ⟨_, rfl⟩
  have hT := tabM_in t
  rw [htab] at hT
  have HUN := Lib.hid (units_any a len cap line t tab htab w hr (by omega) hg)
  have HCS := Lib.hid (fun (W : World) (hW : Below w.heap.size w W) => columns_any a len cap line t tab htab W (hr.below hW) (by omega) (hg.below hg.lt hW))
  have HA := Lib.hid (fun (W : World) (hW : Below w.heap.size w W) => awake_any W (hg.below hg.lt hW))
  have HGL := Lib.hid (fun (W : World) (hW : Below w.heap.size w W) => hg.below hg.lt hW)
  have HLL := Lib.hid hr.len
  clear htab hr hg wt
  go_enter Tryd.func6, Tryd.ntmps6
  go_wp2_with fail
  refine HUN.out.mono ?_
  rintro e w1 ⟨ua, n, uc, vs, rfl, hru, huu, htx, hb1⟩
  have hnl := units_len huu hru.len
  have hns := hru.small
  have HRU := Lib.hid hru
  have HUU := Lib.hid huu
  have HB1 := Lib.hid hb1
  have HNL := Lib.hid hnl
  have HTX := Lib.hid htx
  clear hru huu hb1 htx hnl HUN
  have fin : ∀ wr : World, Below w1.heap.size w1 wr → Below w.heap.size w wr := fun wr h => HB1.out.trans (h.mono HB1.out.size)
  have HFIN := Lib.hid fin; clear fin
  have HEND := Lib.hid (lastTo_all (line := line) (tab := tab))
  by_cases hn0 : n = 0
  · have hu0 : units line tab = [] := List.eq_nil_of_length_eq_zero (by rw [HNL.out]; exact hn0)
    have hl0 : len = 0 := by
      have h := HEND.out
      rw [hu0, HLL.out] at h
      exact h.symm
    have HCS0 : Hid (∀ W : World, Below w.heap.size w W → Calls Tryd.prog 19 #[.slice a len cap, .int .i64 t] W fun e w' => e = .returned (.int .i64 0) ∧ Below W.heap.size W w') := by
      intro W hW
      have h := HCS.out W hW
      rw [hu0] at h
      exact h
    have hz : ((0 : Int) == (len : Int)) = true := by simp [hl0]
    subst hn0
    clear hu0 hl0
    go_wp2_with fail
    go_loopw [6, 7, 8] (fun x y i wr => x = .int .i64 0 ∧ y = .int .i64 0 ∧ i = .int .i64 0 ∧ wr = w1) (fun _ _ _ _ => 0)
    case atStart => exact ⟨rfl, rfl, rfl, rfl⟩
    case round =>
      obtain ⟨rfl, rfl, rfl, rfl⟩ := hrel
      go_wp2_with fail
      refine (HCS0.out _ HB1.out).mono ?_
      rintro e w2 ⟨rfl, hb2⟩
      have HB2 := Lib.hid (HB1.out.trans (hb2.mono HB1.out.size))
      clear hb2
      go_wp2_with fail
      refine (HA.out _ HB2.out).mono ?_
      rintro e w4 ⟨rfl, hb4⟩
      go_wp2_with fail
      go_ret
      exact ⟨rfl, HB2.out.trans (hb4.mono HB2.out.size)⟩
  obtain ⟨b, off, rfl, hbl⟩ := rdu_some HRU.out (by omega)
  go_wp2_with fail
  go_loopw [6, 7, 8] (fun x y i wr => ∃ k p q : Nat, k ≤ n ∧ x = .int .i64 p ∧ y = .int .i64 q ∧ i = .int .i64 k ∧ Hid (p = lastTo ((units line tab).take k) ∧ q = endCol ((units line tab).take k)) ∧ Below w1.heap.size w1 wr) (fun _ _ i _ => n - (intOf i).toNat)
  case atStart => exact ⟨0, 0, 0, by omega, rfl, rfl, rfl, ⟨rfl, rfl⟩, Below.refl _ _⟩
  case round =>
    obtain ⟨k, p, q, hk, rfl, rfl, rfl, hpq, hbw⟩ := hrel
    by_cases hlt : k < n
    · obtain ⟨⟨⟨f, g, c, d⟩, ta, tl, tc, tx⟩, hmem, hux, c0, c1, c2, c3, c4, hrt⟩ := unit_cells (HRU.out.below hbw) HUU.out hlt
      dsimp only at hux c0 c1 c2 c3 c4 hrt
      have hpre := unit_facts HNL.out hlt hux
      obtain ⟨q1, q2, q3, q4, q5, q6, q7, q8⟩ := next_unit hpre
      have hcb := pre_bound hT hpre
      rw [endCol_snoc] at hcb
      have htk : (units line tab).take (k + 1) = (units line tab).take k ++ [⟨f, g, c, d⟩] := by
        rw [← hux, List.take_add_one, List.getD_eq_getElem?_getD, List.getElem?_eq_getElem (by rw [HNL.out]; exact hlt)]; simp
      have hlast : lastTo ((units line tab).take (k + 1)) = g := by rw [htk, lastTo_snoc]
      have hcol : endCol ((units line tab).take (k + 1)) = c + d := by rw [htk, endCol_snoc]
      obtain ⟨t1, t2, t3⟩ := text_ok (line := line) hT q3 q5 q7
      have htxe := HTX.out _ hmem
      dsimp only at htxe q1 q2 q3 q4 q5 q6 q7 hcb t2
      rw [← htxe] at t1 t2 t3
      obtain ⟨p1, p2⟩ := hpq.out
      have q2' : f = lastTo ((units line tab).take k) := q2
      obtain rfl : p = f := by rw [p1, q2']
      obtain rfl : q = c := by rw [p2, q1]
      rw [HLL.out] at q4 hcb
      have hd1 : 1 ≤ d := by rw [q5]; exact width1_pos hT
      have hgf : g ≤ p + 3 := by unfold marksU at q8; simp only at q8; omega
      have hrl := hrt.len
      rw [hrl] at t3
      obtain ⟨bt, ot, rfl, hbt, hct⟩ := rd_rn hrt (by omega)
      have hrs := hrt.small
      have htl2 : tl ≤ 100000 := by
        have h2 := textM_le (line := line) (u := ⟨p, g, q, d⟩) (tab := tab) hT (by rw [HLL.out]; exact q4) q5
        rw [← htxe, hrl, HLL.out] at h2
        omega
      have HPQ' : Hid (g = lastTo ((units line tab).take (k + 1)) ∧ q + d = endCol ((units line tab).take (k + 1))) := ⟨hlast.symm, hcol.symm⟩
      have HOK := Lib.hid (fun (m : Nat) (hm : m < tl) => t1 (rn tx m) (by unfold rn; exact getD_mem (by rw [hrl]; exact hm)))
      have HSUM := Lib.hid t2
      have HST := Lib.hid (fun (m : Nat) (hm : m < tl) => wsum_take (xs := tx) (k := m) (by rw [hrl]; exact hm))
      have HWL := Lib.hid (fun m => wsum_le (tx.take m))
      have HRL := Lib.hid hrl
      have HBW := Lib.hid hbw
      have HCT := Lib.hid hct
      have i3 : (0 : Int) ≤ (k : Int) := by omega
      have i4 : (k : Int) < (n : Int) := by omega
      have e1 : ((p : Int) != (p : Int)) = false := by simp
      have e2 : ((q : Int) != (q : Int)) = false := by simp
      have n1 : ¬ (g : Int) ≤ (p : Int) := by omega
      have n2 : ¬ (d : Int) < 1 := by omega
      have n3 : ¬ (3 : Int) < (g : Int) - (p : Int) := by omega
      clear hmem hux hpre q1 q2 q5 q6 q7 q8 htk hlast hcol t1 t2 htxe hpq p1 p2 q2' hrl hrt hct hbw
      go_wp2_with fail
      go_loopw [10, 11] (fun x j wx => ∃ m s : Nat, m ≤ tl ∧ x = .int .i64 s ∧ j = .int .i64 m ∧ Hid (s = wsum (tx.take m)) ∧ s ≤ 2 * m ∧ wx = wr.alloc (.cells #[.int .i64 (p : Nat), .int .i64 (g : Nat), .int .i64 (q : Nat), .int .i64 (d : Nat), .slice (some ⟨bt, ot, none⟩) tl tc] 39)) (fun _ j _ => tl - (intOf j).toNat)
      case atStart => exact ⟨0, 0, by omega, rfl, rfl, rfl, by omega, by simp⟩
      case round =>
        obtain ⟨m, s, hm, rfl, rfl, hs, hs2, rfl⟩ := hrel
        by_cases hml : m < tl
        · have cm := HCT.out m hml
          have hok := HOK.out m hml
          have hst := HST.out m hml
          obtain ⟨x, hx⟩ : ∃ x, rn tx m = x := ⟨_, rfl⟩
          have hx' : tx.getD m 0 = x := hx
          rw [hx] at cm hok
          rw [hx', ← hs.out] at hst
          obtain ⟨z, hz⟩ : ∃ z, widthM x = z := ⟨_, rfl⟩
          rw [hz] at hst
          have hz2 : z ≤ 2 := by rw [← hz]; exact widthM_le x
          have HZ : Hid (widthM x = z) := hz
          have HOX := Lib.hid hok
          have hx32 := hok.2.1
          have hx127 := hok.2.2
          have HST' := Lib.hid hst
          have b1 : ¬ x < 32 := by omega
          clear hok hst hz hx hx'
          rcases hx127 with h127 | h160
          · have b2 : ¬ (127 ≤ x) := by omega
            clear h127
            go_wp2_with (first
              | (go_at_call 10; refine (width_is x z _ ((HGL.out _ (HFIN.out _ HBW.out)).alloc _) HZ).mono ?_; rintro e w' ⟨rfl, rfl⟩)
              | (go_at_call 25; refine (refValid_ok x _ HOX).mono ?_; rintro e w' ⟨rfl, rfl⟩))
            go_roundw
            case rel => exact ⟨m + 1, s + z, by omega, by go_num, by go_num, HST'.out.symm, by omega, by simp⟩
            case measure => simp [intOf]; omega
          · have b2 : 127 ≤ x := by omega
            have b3 : ¬ (x < 160) := by omega
            go_wp2_with (first
              | (go_at_call 10; refine (width_is x z _ ((HGL.out _ (HFIN.out _ HBW.out)).alloc _) HZ).mono ?_; rintro e w' ⟨rfl, rfl⟩)
              | (go_at_call 25; refine (refValid_ok x _ HOX).mono ?_; rintro e w' ⟨rfl, rfl⟩))
            go_roundw
            case rel => exact ⟨m + 1, s + z, by omega, by go_num, by go_num, HST'.out.symm, by omega, by simp⟩
            case measure => simp [intOf]; omega
        · obtain rfl : m = tl := by omega
          obtain rfl : s = d := by
            rw [hs.out, List.take_of_length_le (by rw [HRL.out]; exact Nat.le_refl _)]; exact HSUM.out
          have e3 : ((s : Int) != (s : Int)) = false := by simp
          have w1' : IntKind.i64.wrap ((q : Int) + (s : Int)) = (q : Int) + (s : Int) := by rw [IntKind.wrap_i64]; omega
          have HBA := Lib.hid (HBW.out.alloc (by have := HBW.out.size; omega) (.cells #[.int .i64 (p : Nat), .int .i64 (g : Nat), .int .i64 (q : Nat), .int .i64 (s : Nat), .slice (some ⟨bt, ot, none⟩) m tc] 39))
          clear hs
          go_wp2_with fail
          go_quiet (fail)
          go_wp2_with fail
          go_roundw
          case rel => exact ⟨k + 1, g, q + s, by omega, by go_num, by go_num, by go_num, HPQ', bdrewN HBA.out _⟩
          case measure => simp [intOf]; omega
    · obtain rfl : k = n := by omega
      obtain ⟨p1, p2⟩ := hpq.out
      rw [List.take_of_length_le (by rw [HNL.out]; exact Nat.le_refl _)] at p1 p2
      obtain rfl : p = len := by rw [p1, HEND.out, HLL.out]
      have HCS0 : Hid (∀ W : World, Below w.heap.size w W → Calls Tryd.prog 19 #[.slice a p cap, .int .i64 t] W fun e w' => e = .returned (.int .i64 q) ∧ Below W.heap.size W w') := by
        intro W hW
        have h := HCS.out W hW
        rw [← p2] at h
        exact h
      have hz : ((p : Int) == (p : Int)) = true := by simp
      have hz2 : ((q : Int) == (q : Int)) = true := by simp
      have HBW := Lib.hid (HFIN.out _ hbw)
      clear hbw p1 p2 hpq
      go_wp2_with fail
      refine (HCS0.out _ HBW.out).mono ?_
      rintro e w2 ⟨rfl, hb2⟩
      have HB2 := Lib.hid (HBW.out.trans (hb2.mono HBW.out.size))
      clear hb2
      go_wp2_with fail
      refine (HA.out _ HB2.out).mono ?_
      rintro e w4 ⟨rfl, hb4⟩
      go_wp2_with fail
      go_ret
      exact ⟨rfl, HB2.out.trans (hb4.mono HB2.out.size)⟩
end Go.Proofs.YthceooehndiglaaDoor.U
