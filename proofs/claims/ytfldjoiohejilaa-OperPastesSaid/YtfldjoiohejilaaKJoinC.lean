/-
  The program's isApart, joined.
  The program's joined: one line of some.
  The program's Join.
-/
import Derived.Test.YtfldjoiohejilaaKSet
import Derived.Test.YtfldjoiohejilaaJJoinB
import Derived.Test.YtfldjoiohejilaaKCutP
import Derived.Test.YtfldjoiohejilaaJCon
namespace Go.Proofs.Ytfldjoiohejilaa.U
open Go.RowKit
set_option linter.unusedVariables false
set_option linter.unusedSimpArgs false
set_option maxRecDepth 100000

/-- does a blank stand between -/
def apartB (X y : List Int) : Bool := decide (y ≠ []) && decide (y.getD 0 0 ≠ 41) && decide (X ≠ []) && !blankR (X.getD (X.length - 1) 0)
theorem joinX_apart (X x : List Int) : joinX X x = X ++ (if apartB X (joinY x) then [32] else []) ++ joinY x := by
  unfold joinX apartB
  congr 2
  simp only [Bool.and_eq_true, decide_eq_true_eq, Bool.not_eq_true']
  simp only [and_assoc]
theorem kapart_any (xa ya : Option Addr) (m xc n yc : Nat) (X y : List Int) (w : World) (h : Rd .i32 w xa m xc X) (k : Rd .i32 w ya n yc y) :
    Calls Try.prog 97 #[.slice xa m xc, .slice ya n yc] w fun e w' => e = .returned (.bool (apartB X y)) ∧ w' = w := by
  have hm := h.1
  have hn := k.1
  have hms := h.small
  have hns := k.small
  by_cases n0 : n = 0
  · subst n0
    have hy : y = [] := List.eq_nil_of_length_eq_zero hn
    have hr : apartB X y = false := by subst hy; simp [apartB]
    rw [hr]
    clear h k hr hm hn hy
    go_enter Try.func97, Try.ntmps97
    go_wp2
    go_ret
    exact ⟨rfl, rfl⟩
  obtain ⟨yb, yo, rfl, hyc⟩ := k.2.2.2.2.2 (by omega)
  have hy0 := hyc 0 (by omega)
  rw [Nat.add_zero] at hy0
  have hyb := block_lt_of_cell hy0
  have hyne : y ≠ [] := by rintro rfl; simp at hn; omega
  have dn : decide ((0 : Int) < (n : Int)) = true := by simp; omega
  have gn : (0 : Int) < (n : Int) := by omega
  have gn2 : 0 < n := by omega
  obtain ⟨z, hz⟩ : ∃ z, y.getD 0 0 = z := ⟨_, rfl⟩
  rw [hz] at hy0
  by_cases hz1 : z = 41
  · subst hz1
    have hr : apartB X y = false := by unfold apartB; rw [hz]; simp
    rw [hr]
    clear h k hr hm hn hyc hz hyne
    go_enter Try.func97, Try.ntmps97
    go_wp2
    go_ret
    exact ⟨rfl, rfl⟩
  have dz : (z != 41) = true := by simpa using hz1
  by_cases m0 : m = 0
  · subst m0
    have hX : X = [] := List.eq_nil_of_length_eq_zero hm
    have hr : apartB X y = false := by subst hX; simp [apartB]
    rw [hr]
    clear h k hr hm hn hyc hz hyne hX
    go_enter Try.func97, Try.ntmps97
    go_wp2
    go_ret
    exact ⟨rfl, rfl⟩
  obtain ⟨xb, xo, rfl, hxc⟩ := h.2.2.2.2.2 (by omega)
  obtain ⟨l, hl⟩ : ∃ l, m - 1 = l := ⟨_, rfl⟩
  have hx0 := hxc l (by omega)
  have hxb := block_lt_of_cell hx0
  have dm : decide ((0 : Int) < (m : Int)) = true := by simp; omega
  have gm : (0 : Int) < (m : Int) := by omega
  have gl : (m : Int) - 1 = (l : Int) := by omega
  have gl2 : l < m := by omega
  obtain ⟨u, hu⟩ : ∃ u, X.getD l 0 = u := ⟨_, rfl⟩
  rw [hu] at hx0
  have hXne : X ≠ [] := by rintro rfl; simp at hm; omega
  have hr : apartB X y = !blankR u := by unfold apartB; rw [hz, hm, hl, hu]; simp [hyne, hz1, hXne]
  have HC : Hid (∀ W, Calls Try.prog 101 #[.int .i32 u] W fun e w' => e = .returned (.bool (blankR u)) ∧ W = w') := fun W => (kblank_any u W).mono fun _ _ h => ⟨h.1, h.2.symm⟩
  rw [hr]
  obtain ⟨B, hB⟩ : ∃ B, blankR u = B := ⟨_, rfl⟩
  rw [hB] at HC ⊢
  clear h k hr hm hn hyc hxc hz hyne hXne hl hu hB
  go_enter Try.func97, Try.ntmps97
  go_wp2_with (go_at_call 101; (refine (HC.out _).mono ?_); rintro e wq ⟨rfl, hwq⟩; subst hwq)
  go_ret
  exact ⟨by cases B <;> rfl, rfl⟩
/-- a line without its blanks -/
theorem kdrop_rd {w : World} {xa : Option Addr} {m xc : Nat} {x : List Int} (h : Rd .i32 w xa m xc x) : Rd .i32 w (if xc = blkN x then xa else xa.map (·.add (blkN x * 1))) (m - blkN x) (xc - blkN x) (joinY x) := by
  rw [joinY_drop]
  exact h.drop (blkN x) (by have := blkN_le x; have := h.1; omega)
theorem joinA_piece (L : List (List Int)) (a : Nat) : ∀ j n, j < n → joinA ((L.drop a).take n) 0 j = joinA L a j
  | 0, n, h => by
    unfold joinA lnL
    simp [List.getD_eq_getElem?_getD, List.getElem?_take, h]
  | j + 1, n, h => by
    unfold joinA
    rw [joinA_piece L a j n (by omega)]
    congr 1
    unfold lnL
    simp only [List.getD_eq_getElem?_getD, List.getElem?_take, List.getElem?_drop, Nat.zero_add]
    rw [if_pos h, Nat.add_assoc]
theorem joinC_piece (L : List (List Int)) (a : Nat) (j n : Nat) (h : j < n) : joinC ((L.drop a).take n) 0 j = joinC L a j := by
  cases j with
  | zero => rfl
  | succ j => show (joinA ((L.drop a).take n) 0 j).length = (joinA L a j).length; rw [joinA_piece L a j n (by omega)]
end Go.Proofs.Ytfldjoiohejilaa.U

namespace Go.Proofs.Ytfldjoiohejilaa.U
open Go.RowKit
set_option linter.unusedVariables false
set_option linter.unusedSimpArgs false
set_option maxRecDepth 100000

theorem joinX_len (X x : List Int) : (joinX X x).length ≤ X.length + x.length + 1 := by
  rw [joinX_apart, joinY_drop]
  simp only [List.length_append, List.length_drop]
  split <;> simp <;> omega
theorem joinA_lenK (L : List (List Int)) (a : Nat) : ∀ j, a + j < L.length → (joinA L a j).length + 1 ≤ sizeN (lens ((L.drop a).take (j + 1)))
  | 0, h => by
    have hx : (L.drop a)[0]? = some (lnL L a) := by
      unfold lnL
      rw [List.getElem?_drop, Nat.add_zero, List.getElem?_eq_getElem (by omega), List.getD_eq_getElem?_getD, List.getElem?_eq_getElem (by omega)]
      rfl
    rw [size_take hx]
    show (lnL L a).length + 1 ≤ _
    omega
  | j + 1, h => by
    have ih := joinA_lenK L a j (by omega)
    have hx : (L.drop a)[j + 1]? = some (lnL L (a + j + 1)) := by
      unfold lnL
      rw [List.getElem?_drop, ← Nat.add_assoc, List.getElem?_eq_getElem (by omega), List.getD_eq_getElem?_getD, List.getElem?_eq_getElem (by omega)]
      rfl
    rw [size_take hx]
    have := joinX_len (joinA L a j) (lnL L (a + j + 1))
    show (joinX (joinA L a j) (lnL L (a + j + 1))).length + 1 ≤ _
    omega
set_option maxHeartbeats 8000000 in
theorem kjoined_any (F : Nat → Prop) (a : Option Addr) (n c : Nat) (L : List (List Int)) (w : World) (h : RdL F w a n c L) (hs : sizeN (lens L) ≤ 1048576) (hn : 2 ≤ n) :
    Calls Try.prog 73 #[.slice a n c] w fun e w' => ∃ ra m rc, e = .returned (.tuple #[.slice ra m rc, .int .i64 (joinC L 0 (n - 1) : Nat)]) ∧ w'.ownsRow w.heap.size 21 1 (.slice ra m rc) m (ints (joinA L 0 (n - 1))) ∧ Below w.heap.size w w' := by
  have hl := h.len
  have hsm := h.small
  have hcnt := size_count L
  have hn1 : n ≤ 1048576 := by omega
  have hnc : n ≤ c ∧ c ≤ 9223372036854775807 := by obtain ⟨vs, h1, _⟩ := h; have := h1.2.1; have := h1.2.2.1; unfold maxLen at this; exact ⟨by omega, by omega⟩
  obtain ⟨hnc, hcs⟩ := hnc
  have hc1 : ¬ c = 1 := by omega
  have hc1' : 1 ≤ c := by omega
  obtain ⟨lb, lo, rfl, hlb, hF, hrow⟩ := h.at_ (by omega)
  have hlen : ∀ i, i < n → ∃ x, L[i]? = some x ∧ lnL L i = x ∧ x.length ≤ 1048576 := by
    intro i hi
    obtain ⟨x, hx⟩ : ∃ x, L[i]? = some x := ⟨_, List.getElem?_eq_getElem (by omega)⟩
    have hm : x.length ∈ lens L := List.mem_map.2 ⟨_, List.mem_of_getElem? hx, rfl⟩
    have := sizeN_mem hm
    exact ⟨x, hx, lnL_of hx, by omega⟩
  have hAl : ∀ j, j < n → (joinA L 0 j).length ≤ 1048576 := by
    intro j hj
    have h1 := joinA_lenK L 0 j (by omega)
    rw [List.drop_zero] at h1
    have h2 := size_take_le L (j + 1)
    omega
  obtain ⟨x0, hx0, hln0, hxl0⟩ := hlen 0 (by omega)
  obtain ⟨r0, rc0, hcell0, hrd0, -⟩ := hrow 0 x0 hx0
  rw [Nat.add_zero] at hcell0
  have HC0 : Hid (∀ W, W = w → Calls Try.prog 41 #[.slice r0 x0.length rc0] W fun e w' => ∃ ra rc, e = .returned (.slice ra x0.length rc) ∧ Hid (JoS w w' (joinA L 0 0) ra x0.length rc)) := by
    rintro W rfl
    refine (copied_rd r0 x0.length rc0 x0 W hrd0 (by omega)).mono ?_
    rintro e w' ⟨ra, rc, rfl, ho, hb⟩
    have : joinA L 0 0 = x0 := by show lnL L 0 = x0; exact hln0
    rw [this]
    exact ⟨ra, rc, rfl, ho, hb⟩
  have H := Lib.hid (And.intro h hl)
  have HLN := Lib.hid hlen
  have HAL := Lib.hid hAl
  obtain ⟨N, hN⟩ : ∃ N, n - 1 = N := ⟨_, rfl⟩
  have hNi : (n : Int) - 1 = (N : Int) := by omega
  have HN := Lib.hid hN
  have HWF : Hid (∀ j, ∀ y ∈ joinA L 0 j, (Lit.int .i32 y).wf = true) := joinA_wf h 0
  obtain ⟨y0, hy0⟩ : ∃ y0, x0.length = y0 := ⟨_, rfl⟩
  rw [hy0] at HC0 hcell0 hxl0
  clear h hl hcnt hlen hAl hrow hx0 hln0 hrd0 hN hs hy0
  have hn0 : (0 : Int) < (n : Int) := by omega
  have hn0' : 0 < n := by omega
  go_enter Try.func73, Try.ntmps73
  go_upto_region 3 with (go_at_call 41; (refine (HC0.out _ rfl).mono ?_); rintro e w1 ⟨ra0, rb0, rfl, HJ0⟩)
  clear hcell0 HC0
  go_loopw [4, 5, 15] (fun v4 v5 v15 wr => ∃ (j m : Nat) (ra : Option Addr) (rc : Nat), v15 = .int .i64 (j : Nat) ∧ v4 = .slice ra m rc ∧ v5 = .int .i64 (joinC L 0 j : Nat) ∧ j ≤ N ∧ m ≤ 1048576 ∧ Hid (JoS w wr (joinA L 0 j) ra m rc)) (fun _ _ v15 _ => N - (intOf v15).toNat)
  case atStart => exact ⟨0, y0, ra0, rb0, rfl, rfl, rfl, Nat.zero_le _, hxl0, HJ0⟩
  case round =>
    obtain ⟨j, m, ra, rc, rfl, rfl, rfl, hj, hm, hst⟩ := hrel
    clear HJ0
    by_cases hlt : j < N
    · obtain ⟨x, hx, hln, hxl⟩ := HLN.out (j + 1) (by have := HN.out; omega)
      obtain ⟨lb', lo', xa, xc, e1, hlb2, -, hcx, hrdW, hrdw, -⟩ := H.out.1.get hst.out.hb hx
      cases e1
      have hlbr : lb < wr.heap.size := by have := hst.out.hb.size; omega
      have hcx2 : wr.cell? ⟨lb, lo + 1 + j, none⟩ = some (.slice xa x.length xc) := by rw [← hcx]; congr 2; omega
      have hjA : joinA L 0 (j + 1) = joinX (joinA L 0 j) x := by show joinX (joinA L 0 j) (lnL L (0 + j + 1)) = _; rw [Nat.zero_add, hln]
      have hjC : joinC L 0 (j + 1) = m := by show (joinA L 0 j).length = m; exact hst.out.len
      have hjA2 := joinX_apart (joinA L 0 j) x
      have hAb := HAL.out (j + 1) (by have := HN.out; omega)
      have hble := blkN_le x
      have hjy : (joinY x).length = x.length - blkN x := by rw [joinY_drop]; simp
      have hBLK := fun W hW => kblanks_any xa x.length xc x W hW
      obtain ⟨da, hda⟩ : ∃ da, (if xc = blkN x then xa else xa.map (·.add (blkN x * 1))) = da := ⟨_, rfl⟩
      have hdr := kdrop_rd hrdW
      have hdw := kdrop_rd hrdw
      rw [hda] at hdr hdw
      have hrdX : Rd .i32 wr ra m rc (joinA L 0 j) := own_rd hst.out.own (HWF.out j)
      have hAPc := kapart_any ra da m rc (x.length - blkN x) (xc - blkN x) (joinA L 0 j) (joinY x) wr hrdX hdr
      have hmc := hrdW.2.1
      have hmx := hrdW.2.2.1
      have hna := hrdW.2.2.2.2.1
      unfold maxLen at hmx
      obtain ⟨K, hK⟩ : ∃ K, blkN x = K := ⟨_, rfl⟩
      obtain ⟨y, hy⟩ : ∃ y, x.length = y := ⟨_, rfl⟩
      obtain ⟨Z, hZ⟩ : ∃ Z, joinY x = Z := ⟨_, rfl⟩
      obtain ⟨X, hX⟩ : ∃ X, joinA L 0 j = X := ⟨_, rfl⟩
      obtain ⟨T, hT⟩ : ∃ T, apartB X Z = T := ⟨_, rfl⟩
      rw [hX, hZ, hT] at hAPc
      rw [hX] at hst hjA2
      rw [hjA, hX, hjA2, hZ, hT] at hAb
      rw [hZ, hT] at hjA2
      rw [hX] at hjA
      rw [hjA2] at hjA
      rw [hZ] at hdr hdw hjy
      rw [hK] at hdr hdw hAPc hda hble hjy
      rw [hy] at hcx2 hxl hble hmc hjy hdr hdw hAPc
      have hXl : X.length = m := hst.out.len
      have HBL : Hid (∀ W, W = wr → Calls Try.prog 94 #[.slice xa y xc] W fun e w' => e = .returned (.int .i64 (K : Nat)) ∧ W = w') := by
        rintro W rfl
        have := hBLK W hrdW
        rw [hK, hy] at this
        exact this.mono fun _ _ h => ⟨h.1, h.2.symm⟩
      have HAP : Hid (∀ W, W = wr → Calls Try.prog 97 #[.slice ra m rc, .slice da (y - K) (xc - K)] W fun e w' => e = .returned (.bool T) ∧ W = w') := by
        rintro W rfl
        exact hAPc.mono fun _ _ h => ⟨h.1, h.2.symm⟩
      have hKy : K ≤ y := hble
      have hKc : K ≤ xc := by omega
      obtain ⟨M4, hM4⟩ : ∃ M4, (if T then m + 1 else m) + (y - K) = M4 := ⟨_, rfl⟩
      have HMB : Hid (M4 ≤ 1048576) := by
        show _ ≤ _
        simp only [List.length_append, hXl, hjy] at hAb
        rw [← hM4]
        cases T
        · simp at hAb ⊢; omega
        · simp at hAb ⊢; omega
      have HSTEP : Hid (∃ (a4 : Option Addr) (c4 : Nat) (w4 : World), (if T then ∃ (a3 : Option Addr) (c3 : Nat) (w3 : World), (∀ ty, (Builtin.append_ #[35, 35] ty #[.slice ra m rc, .slice (some ⟨wr.heap.size, 0, none⟩) 1 1]).run Try.prog (wr.alloc (.cells #[.int .i32 32] 21)) = .ok (.slice a3 (m + 1) c3) w3) ∧
          (∀ ty, (Builtin.append_ #[35, 35] ty #[.slice a3 (m + 1) c3, .slice da (y - K) (xc - K)]).run Try.prog w3 = .ok (.slice a4 M4 c4) w4)
        else (∀ ty, (Builtin.append_ #[35, 35] ty #[.slice ra m rc, .slice da (y - K) (xc - K)]).run Try.prog wr = .ok (.slice a4 M4 c4) w4)) ∧ Hid (JoS w w4 (joinA L 0 (j + 1)) a4 M4 c4)) := by
        rw [hjA]
        cases T
        · obtain ⟨a', c', w', hrun, hN4⟩ := hst.out.step hdr (by omega)
          simp only [Bool.false_eq_true, if_false] at hM4 ⊢
          rw [hM4] at hrun hN4
          refine ⟨a', c', w', hrun, ?_⟩
          show JoS _ _ _ _ _ _
          simpa using hN4
        · obtain ⟨a1, c1, w1', a', c', w', hrun1, hrun2, hN4⟩ := hst.out.blank (w0 := w) hdw (by omega)
          simp only [if_true] at hM4 ⊢
          rw [hM4] at hrun2 hN4
          exact ⟨a', c', w', ⟨a1, c1, w1', hrun1, hrun2⟩, hN4⟩
      have HJC : Hid (joinC L 0 (j + 1) = m) := hjC
      obtain ⟨a4, c4, w4, hstep, HN4⟩ := HSTEP.out
      clear HSTEP hjC
      have hnj : j < n - 1 := by have := HN.out; omega
      clear hcx hrdW hrdw hdr hdw hrdX hAPc hBLK hjA hjA2 hAb hjy hK hy hZ hX hT hx hln hst hXl hM4
      cases T
      · have HR2 : Hid (∀ ty, (Builtin.append_ #[35, 35] ty #[.slice ra m rc, .slice da (y - K) (xc - K)]).run Try.prog wr = .ok (.slice a4 M4 c4) w4) := hstep
        clear hstep
        rcases xa with _ | ad
        · obtain rfl : xc = 0 := hna rfl
          obtain rfl : y = 0 := by omega
          obtain rfl : K = 0 := by omega
          rw [if_pos rfl] at hda
          subst hda
          simp only [Nat.sub_self] at HAP HR2
          go_wp2_with (first
            | (at_builtin; go_must (with_reducible refine Lib.wpList_append_run _ rfl (.tmp 31) (.tmp 32) _ _ rfl _ _ rfl rfl _ _ (HR2.out _) ?_))
            | (go_at_call 94; (refine (HBL.out _ rfl).mono ?_); rintro e wq ⟨rfl, hwq⟩; subst hwq)
            | (go_at_call 97; (refine (HAP.out _ rfl).mono ?_); rintro e wq ⟨rfl, hwq⟩; subst hwq))
          go_roundw
          case rel => exact ⟨j + 1, M4, a4, c4, by go_num, rfl, by rw [HJC.out], by omega, HMB.out, HN4⟩
          case measure => simp [intOf]; omega
        · by_cases hxk : xc = K
          · rw [if_pos hxk] at hda
            subst hda
            obtain rfl : y = K := by omega
            subst hxk
            simp only [Nat.sub_self] at HAP HR2
            go_wp2_with (first
              | (at_builtin; go_must (with_reducible refine Lib.wpList_append_run _ rfl (.tmp 31) (.tmp 32) _ _ rfl _ _ rfl rfl _ _ (HR2.out _) ?_))
              | (go_at_call 94; (refine (HBL.out _ rfl).mono ?_); rintro e wq ⟨rfl, hwq⟩; subst hwq)
              | (go_at_call 97; (refine (HAP.out _ rfl).mono ?_); rintro e wq ⟨rfl, hwq⟩; subst hwq))
            go_roundw
            case rel => exact ⟨j + 1, M4, a4, c4, by go_num, rfl, by rw [HJC.out], by omega, HMB.out, HN4⟩
            case measure => simp [intOf]; omega
          · rw [if_neg hxk] at hda
            simp only [Option.map_some, Nat.mul_one] at hda
            subst hda
            go_wp2_with (first
              | (at_builtin; go_must (with_reducible refine Lib.wpList_append_run _ rfl (.tmp 31) (.tmp 32) _ _ rfl _ _ rfl rfl _ _ (HR2.out _) ?_))
              | (go_at_call 94; (refine (HBL.out _ rfl).mono ?_); rintro e wq ⟨rfl, hwq⟩; subst hwq)
              | (go_at_call 97; (refine (HAP.out _ rfl).mono ?_); rintro e wq ⟨rfl, hwq⟩; subst hwq))
            go_roundw
            case rel => exact ⟨j + 1, M4, a4, c4, by go_num, rfl, by rw [HJC.out], by omega, HMB.out, HN4⟩
            case measure => simp [intOf]; omega
      · obtain ⟨a3, c3, w3, hr1, hr2⟩ := hstep
        have HR1 := Lib.hid hr1
        have HR2 := Lib.hid hr2
        clear hr1 hr2
        rcases xa with _ | ad
        · obtain rfl : xc = 0 := hna rfl
          obtain rfl : y = 0 := by omega
          obtain rfl : K = 0 := by omega
          rw [if_pos rfl] at hda
          subst hda
          simp only [Nat.sub_self] at HAP HR2
          go_wp2_with (first
            | (at_builtin; go_must (first | (with_reducible refine Lib.wpList_append_run _ rfl (.tmp 28) (.tmp 29) _ _ rfl _ _ rfl rfl _ _ (HR1.out _) ?_) | (with_reducible refine Lib.wpList_append_run _ rfl (.tmp 31) (.tmp 32) _ _ rfl _ _ rfl rfl _ _ (HR2.out _) ?_)))
            | (go_at_call 94; (refine (HBL.out _ rfl).mono ?_); rintro e wq ⟨rfl, hwq⟩; subst hwq)
            | (go_at_call 97; (refine (HAP.out _ rfl).mono ?_); rintro e wq ⟨rfl, hwq⟩; subst hwq))
          go_roundw
          case rel => exact ⟨j + 1, M4, a4, c4, by go_num, rfl, by rw [HJC.out], by omega, HMB.out, HN4⟩
          case measure => simp [intOf]; omega
        · by_cases hxk : xc = K
          · rw [if_pos hxk] at hda
            subst hda
            obtain rfl : y = K := by omega
            subst hxk
            simp only [Nat.sub_self] at HAP HR2
            go_wp2_with (first
              | (at_builtin; go_must (first | (with_reducible refine Lib.wpList_append_run _ rfl (.tmp 28) (.tmp 29) _ _ rfl _ _ rfl rfl _ _ (HR1.out _) ?_) | (with_reducible refine Lib.wpList_append_run _ rfl (.tmp 31) (.tmp 32) _ _ rfl _ _ rfl rfl _ _ (HR2.out _) ?_)))
              | (go_at_call 94; (refine (HBL.out _ rfl).mono ?_); rintro e wq ⟨rfl, hwq⟩; subst hwq)
              | (go_at_call 97; (refine (HAP.out _ rfl).mono ?_); rintro e wq ⟨rfl, hwq⟩; subst hwq))
            go_roundw
            case rel => exact ⟨j + 1, M4, a4, c4, by go_num, rfl, by rw [HJC.out], by omega, HMB.out, HN4⟩
            case measure => simp [intOf]; omega
          · rw [if_neg hxk] at hda
            simp only [Option.map_some, Nat.mul_one] at hda
            subst hda
            go_wp2_with (first
              | (at_builtin; go_must (first | (with_reducible refine Lib.wpList_append_run _ rfl (.tmp 28) (.tmp 29) _ _ rfl _ _ rfl rfl _ _ (HR1.out _) ?_) | (with_reducible refine Lib.wpList_append_run _ rfl (.tmp 31) (.tmp 32) _ _ rfl _ _ rfl rfl _ _ (HR2.out _) ?_)))
              | (go_at_call 94; (refine (HBL.out _ rfl).mono ?_); rintro e wq ⟨rfl, hwq⟩; subst hwq)
              | (go_at_call 97; (refine (HAP.out _ rfl).mono ?_); rintro e wq ⟨rfl, hwq⟩; subst hwq))
            go_roundw
            case rel => exact ⟨j + 1, M4, a4, c4, by go_num, rfl, by rw [HJC.out], by omega, HMB.out, HN4⟩
            case measure => simp [intOf]; omega
    · obtain rfl : j = N := by omega
      have hnn : ¬ j < n - 1 := by have := HN.out; omega
      have HF : Hid (joinC L 0 (n - 1) = joinC L 0 j ∧ w.heap.size ≤ wr.heap.size ∧ wr.ownsRow w.heap.size 21 1 (.slice ra m rc) m (ints (joinA L 0 (n - 1))) ∧ Below w.heap.size w wr) := by
        rw [HN.out]
        exact ⟨rfl, hst.out.hb.size, hst.out.own, hst.out.hb⟩
      clear hst
      go_wp2_with fail
      go_ret2
      exact ⟨_, _, _, by rw [HF.out.1]; rfl, HF.out.2.2.1, HF.out.2.2.2⟩
end Go.Proofs.Ytfldjoiohejilaa.U

namespace Go.Proofs.Ytfldjoiohejilaa.U
open Go.RowKit
set_option linter.unusedVariables false
set_option linter.unusedSimpArgs false
set_option maxRecDepth 100000

/-- a place's box at b -/
def PzS (w : World) (b : Nat) (W : World) : Prop := Below b w W ∧ W.heap[b]? = some (.cells #[.int .i64 0, .int .i64 0] 24 (0, 0))
theorem PzS.below {w W W' : World} {b : Nat} (h : PzS w b W) (hw : w.heap.size = b) (hb : Below W.heap.size W W') : PzS w b W' :=
  ⟨h.1.trans (hb.mono (by have := h.1.size; omega)), (hb.block _ (heap_lt h.2)).trans h.2⟩
theorem pzs_new (w : World) : PzS w w.heap.size (w.alloc (.cells #[.int .i64 0, .int .i64 0] 24)) := ⟨bal _ _, heap_alloc_new w _⟩
theorem PzS.cells {w W : World} {b : Nat} (h : PzS w b W) : ArP b W := ArP.of h.2
/-- one line written out as lines -/
theorem rdl_one {B : Nat} {W : World} {ra : Option Addr} {m rc : Nat} {X : List Int} (ho : W.ownsRow B 21 1 (.slice ra m rc) m (ints X)) (hB : B ≤ W.heap.size) (hw : ∀ y ∈ X, (Lit.int .i32 y).wf = true) :
    RdL (fun x => B ≤ x) (W.alloc (.cells #[.slice ra m rc] 35)) (some ⟨W.heap.size, 0, none⟩) 1 1 [X] := by
  have hrd := own_rd ho hw
  refine ⟨[.slice ra m rc], ?_, ?_, ?_⟩
  · refine ⟨rfl, Nat.le_refl _, by unfold maxLen; omega, fun e => (by cases e), fun _ => ⟨W.heap.size, 0, rfl, by simp, fun j u hu => ?_⟩⟩
    rw [cell_row (heap_alloc_new W _)]
    simpa using hu
  · intro _ ad e
    cases e
    exact hB
  · exact RowsAt.one (hrd.alloc _) (InF.own ho (fun z hz => (ho.lt z hz).1))
theorem joinM_size {L : List (List Int)} {a N : Nat} (h2 : 2 ≤ N) (h : a + N ≤ L.length) : sizeN (lens (joinM L a N)) ≤ sizeN (lens L) := by
  have h3 := joinA_lenK L a (N - 1) (by omega)
  rw [show N - 1 + 1 = N by omega] at h3
  have h4 := size_parts L a N
  unfold joinM
  rw [lens_append, lens_append, sizeN_append, sizeN_append]
  simp only [lens, List.map_cons, List.map_nil, sizeN_cons, sizeN_nil] at h3 h4 ⊢
  omega
set_option maxHeartbeats 4000000 in
theorem kjoin_no (a : Option Addr) (n c : Nat) (F : Nat → Prop) (L : List (List Int)) (at_ m : Int) (w : World) (h : RdL F w a n c L) (ha : i64b at_) (hm : i64b m) (hR : at_ < 0 ∨ (n : Int) - at_ < max 2 m) :
    Calls Try.prog 28 #[.slice a n c, .int .i64 at_, .int .i64 m] w fun e w' => e = .returned (.tuple #[.slice none 0 0, plV (0, 0), .int .i64 2]) ∧ Below w.heap.size w w' := by
  have hsm := h.small
  obtain ⟨wb, hwb⟩ : ∃ wb, w.alloc (.cells #[.int .i64 0, .int .i64 0] 24) = wb := ⟨_, rfl⟩
  have hP := pzs_new w
  rw [hwb] at hP
  obtain ⟨x0, x1, z0, z1, hl⟩ := hP.cells
  obtain ⟨ha1, ha2⟩ := ha
  obtain ⟨hm1, hm2⟩ := hm
  obtain ⟨b, hbe⟩ : ∃ b, w.heap.size = b := ⟨_, rfl⟩
  have HBE := Lib.hid hbe
  have HW := Lib.hid hwb
  have HB := Lib.hid hP.1
  rw [hbe] at x0 x1 z0 z1 hl HB
  rw [hbe]
  clear h hwb hP hbe
  obtain ⟨M, hM⟩ : ∃ M, max m 2 = M := ⟨_, rfl⟩
  have hM2 : max 2 m = M := by omega
  rw [hM2] at hR
  have hMb : 2 ≤ M ∧ M ≤ 9223372036854775807 := by omega
  obtain ⟨hMb1, hMb2⟩ := hMb
  clear hM2
  go_enter Try.func28, Try.ntmps28
  go_upto_region 1 with fail
  rw [HBE.out, HW.out]
  by_cases c1 : at_ < 0
  · have d1 : decide (at_ < 0) = true := by simpa using c1
    clear hR
    go_wp2
    refine bodyPost_ret (v := .tuple #[.slice none 0 0, plV (0, 0), .int .i64 2]) ?_ rfl ⟨rfl, ?_⟩
    · rw [results_tctK rfl]
      go_simp
      first | rfl | done
    · (repeat' (first | (with_reducible exact HB.out) | (with_reducible refine setCell_below ?_ _ _ _ ?_) | omega))
  · have d1 : decide (at_ < 0) = false := by simp; omega
    have c2 : (n : Int) - M < at_ := by omega
    have d2 : decide ((n : Int) - M < at_) = true := by simpa using c2
    clear hR
    go_wp2
    refine bodyPost_ret (v := .tuple #[.slice none 0 0, plV (0, 0), .int .i64 2]) ?_ rfl ⟨rfl, ?_⟩
    · rw [results_tctK rfl]
      go_simp
      first | rfl | done
    · (repeat' (first | (with_reducible exact HB.out) | (with_reducible refine setCell_below ?_ _ _ _ ?_) | omega))
set_option maxHeartbeats 8000000 in
theorem kjoin_ok (F : Nat → Prop) (a : Option Addr) (n c : Nat) (L : List (List Int)) (A N : Nat) (m : Int) (w : World) (h : RdL F w a n c L) (hs : sizeN (lens L) ≤ 65536) (hm : i64b m) (hN : max 2 m = (N : Int)) (hAN : A + N ≤ n) :
    Calls Try.prog 28 #[.slice a n c, .int .i64 (A : Nat), .int .i64 m] w fun e w' => ∃ ra k rc, e = .returned (.tuple #[.slice ra k rc, plV (clipP (joinM L A N) (A : Int) (joinC L A (N - 1) : Int)), .int .i64 0]) ∧ RdL (fun x => w.heap.size ≤ x) w' ra k rc (joinM L A N) ∧ Below w.heap.size w w' := by
  have hl := h.len
  have hcnt := size_count L
  have hsm := h.small
  have hN2 : 2 ≤ N := by omega
  have hnc : n ≤ c ∧ c ≤ 9223372036854775807 := by obtain ⟨vs, h1, _⟩ := h; have := h1.2.1; have := h1.2.2.1; unfold maxLen at this; exact ⟨by omega, by omega⟩
  obtain ⟨hnc, hcs⟩ := hnc
  obtain ⟨lb, lo, rfl, hlb, -⟩ := h.at_ (by omega)
  have hms := joinM_size (L := L) (a := A) hN2 (by omega)
  have hMn : joinM L A N = L.take A ++ [joinA L A (N - 1)] ++ L.drop (A + N) := rfl
  have hwfA := joinA_wf h A (N - 1)
  have hjC : joinC L A (N - 1) ≤ 1048576 := by
    obtain ⟨j, hj⟩ : ∃ j, N - 1 = j + 1 := ⟨N - 2, by omega⟩
    rw [hj]
    have h1 := joinA_lenK L A j (by omega)
    have h2 := size_parts L A (j + 1)
    show (joinA L A j).length ≤ _
    omega
  have hjo := fun W (hW : Below w.heap.size w W) => kjoined_any F (some ⟨lb, lo + A, none⟩) N (c - A) ((L.drop A).take N) W (by
    have h1 := ((h.below hW).drop A (by omega)).take N (by omega)
    rw [if_neg (by omega)] at h1
    simp only [Option.map_some, Nat.mul_one, add_lit] at h1
    exact h1) (by have := size_take_le (L.drop A) N; have h3 : sizeN (lens (L.drop A)) ≤ sizeN (lens L) := (by rw [lens_drop]; exact sizeN_drop_le2 _ _); omega) hN2
  rw [joinC_piece L A (N - 1) N (by omega), joinA_piece L A (N - 1) N (by omega)] at hjo
  obtain ⟨wb, hwb⟩ : ∃ wb, w.alloc (.cells #[.int .i64 0, .int .i64 0] 24) = wb := ⟨_, rfl⟩
  have hP := pzs_new w
  rw [hwb] at hP
  obtain ⟨b, hbe⟩ : ∃ b, w.heap.size = b := ⟨_, rfl⟩
  obtain ⟨X, hX⟩ : ∃ X, joinA L A (N - 1) = X := ⟨_, rfl⟩
  obtain ⟨C, hC⟩ : ∃ C, joinC L A (N - 1) = C := ⟨_, rfl⟩
  obtain ⟨M, hM⟩ : ∃ M, joinM L A N = M := ⟨_, rfl⟩
  rw [hX, hC] at hjo
  rw [hX] at hwfA hMn
  rw [hM] at hMn hms
  rw [hC] at hjC
  rw [hM, hC]
  obtain ⟨⟨q1, q2⟩, hQ⟩ : ∃ Q, clipP M (A : Int) (C : Int) = Q := ⟨_, rfl⟩
  rw [hQ]
  have HJ : Hid (∀ W, W = wb → Calls Try.prog 73 #[.slice (some ⟨lb, lo + A, none⟩) N (c - A)] W fun e w' => ∃ (ra : Option Addr) (k rc : Nat), e = .returned (.tuple #[.slice ra k rc, .int .i64 (C : Nat)]) ∧ Hid (RdL (fun x => b + 1 ≤ x) (w'.alloc (.cells #[.slice ra k rc] 35)) (some ⟨w'.heap.size, 0, none⟩) 1 1 [X] ∧ PzS w b (w'.alloc (.cells #[.slice ra k rc] 35)))) := by
    rintro W rfl
    refine (hjo W hP.1).mono ?_
    rintro e w' ⟨ra, k, rc, rfl, ho, hb⟩
    have hz := heap_lt hP.2
    have hsW := hb.size
    have h1 := rdl_one (B := W.heap.size) ho hsW hwfA
    refine ⟨ra, k, rc, rfl, h1.mono (fun x hx => by omega), ?_⟩
    rw [← hbe]
    exact (hP.below rfl hb).below rfl (bal _ _)
  have HREP : Hid (∀ W la, Hid (RdL (fun x => b + 1 ≤ x) W la 1 1 [X] ∧ PzS w b W) → Calls Try.prog 47 #[.slice (some ⟨lb, lo, none⟩) n c, .int .i64 (A : Nat), .int .i64 ((A + N : Nat) : Int), .slice la 1 1] W fun e w' => ∃ (va : Option Addr) (vn vc : Nat), e = .returned (.slice va vn vc) ∧ Hid (RdL (fun x => b + 1 ≤ x) w' va vn vc M ∧ PzS w b w')) := by
    intro W la hW
    have hbW := hW.out.2.1
    rw [← hbe] at hbW
    refine (kreplaced_any F _ (some ⟨lb, lo, none⟩) n c L la 1 1 [X] A (A + N) W (h.below hbW) hW.out.1 (by omega) (by omega) (by omega) (by omega) (by omega)).mono ?_
    rintro e w' ⟨va, vc, rfl, hr2, hb⟩
    rw [← hMn] at hr2
    have hzW := heap_lt hW.out.2.2
    exact ⟨va, _, vc, rfl, hr2.mono (fun x hx => by rcases hx with hx | hx; exact hx; omega), hW.out.2.below hbe hb⟩
  have HCLIP : Hid (∀ W va vn vc, Hid (RdL (fun x => b + 1 ≤ x) W va vn vc M ∧ PzS w b W) → Calls Try.prog 53 #[.slice va vn vc, .agg #[.int .i64 (A : Nat), .int .i64 (C : Nat)]] W fun e w' => e = .returned (.agg #[.int .i64 (q1 : Nat), .int .i64 (q2 : Nat)]) ∧ Hid (RdL (fun x => b + 1 ≤ x) w' va vn vc M ∧ PzS w b w')) := by
    intro W va vn vc hW
    refine (wclip_any _ va vn vc M ⟨(A : Int), (C : Int)⟩ W hW.out.1 ⟨⟨by show _ ≤ (A : Int); omega, by show (A : Int) ≤ _; omega⟩, ⟨by show _ ≤ (C : Int); omega, by show (C : Int) ≤ _; omega⟩⟩).mono ?_
    rintro e w' ⟨rfl, hb⟩
    rw [hQ]
    exact ⟨rfl, hW.out.1.below hb, hW.out.2.below hbe hb⟩
  have HSET : Hid (∀ W va vn vc, Hid (RdL (fun x => b + 1 ≤ x) W va vn vc M ∧ PzS w b W) → Calls Try.prog 48 #[.slice va vn vc, .agg #[.int .i64 (q1 : Nat), .int .i64 (q2 : Nat)]] W fun e w' => e = .returned (.tuple #[.slice va vn vc, .agg #[.int .i64 (q1 : Nat), .int .i64 (q2 : Nat)], .int .i64 0]) ∧ ArP b w' ∧ Hid (RdL (fun x => b + 1 ≤ x) w' va vn vc M ∧ Below b w w')) := by
    intro W va vn vc hW
    refine (ksettled_ok _ va vn vc M (q1, q2) W hW.out.1 (by omega)).mono ?_
    rintro e w' ⟨rfl, hb⟩
    have h4 := hW.out.2.below hbe hb
    exact ⟨rfl, h4.cells, hW.out.1.below hb, h4.1⟩
  obtain ⟨x0, x1, z0, z1, zl⟩ := hP.cells
  rw [hbe] at x0 x1 z0 z1 zl
  have HBE := Lib.hid hbe
  have HW := Lib.hid hwb
  rw [hbe]
  obtain ⟨Z, hZ⟩ : ∃ Z, A + N = Z := ⟨_, rfl⟩
  have hZi : (A : Int) + (N : Int) = (Z : Int) := by omega
  rw [hZ] at HREP
  have hZn : Z ≤ n := by omega
  have hAZ : A ≤ Z := by omega
  have hAc : ¬ c = A := by omega
  have hAc2 : A ≤ c := by omega
  have hZA : Z - A = N := by omega
  have hn6 : n ≤ 1048576 := by omega
  have hmx : max m 2 = (N : Int) := by omega
  have d1 : decide ((A : Int) < 0) = false := decide_eq_false (by omega)
  have c1 : ¬ (A : Int) < 0 := by omega
  have c2 : ¬ (n : Int) - (N : Int) < (A : Int) := by omega
  have d2 : decide ((n : Int) - (N : Int) < (A : Int)) = false := by simp; omega
  obtain ⟨hm1, hm2⟩ := hm
  have HZA := Lib.hid hZA
  have HJ2 : Hid (∀ W, W = wb → Calls Try.prog 73 #[.slice (some ⟨lb, lo + A, none⟩) (Z - A) (c - A)] W fun e w' => ∃ (ra : Option Addr) (k rc : Nat), e = .returned (.tuple #[.slice ra k rc, .int .i64 (C : Nat)]) ∧ Hid (RdL (fun x => b + 1 ≤ x) (w'.alloc (.cells #[.slice ra k rc] 35)) (some ⟨w'.heap.size, 0, none⟩) 1 1 [X] ∧ PzS w b (w'.alloc (.cells #[.slice ra k rc] 35)))) := by rw [hZA]; exact HJ.out
  clear h hl hcnt hs hms hMn hwfA hjC hjo hwb hP hbe hX hC hM hQ hZ hZA HJ hN hN2 hAN hlb
  unfold plV
  go_enter Try.func28, Try.ntmps28
  go_upto_region 1 with fail
  rw [HBE.out, HW.out]
  go_upto_region 5 with (go_at_call 73; (refine (HJ2.out _ rfl).mono ?_); rintro e w1 ⟨ra, k, rc, rfl, HR1⟩)
  clear x0 x1 z0 z1 zl
  go_upto_region 6 with (go_at_call 47; (refine (HREP.out _ _ HR1).mono ?_); rintro e w2 ⟨va, vn, vc, rfl, HR2⟩)
  go_wp2_with (first
    | (go_at_call 48; (refine (HSET.out _ _ _ _ HR3).mono ?_); rintro e w4 ⟨rfl, ⟨u0, u1, u2, u3, u4⟩, HR4⟩)
    | (go_at_call 53; (refine (HCLIP.out _ _ _ _ HR2).mono ?_); rintro e w3 ⟨rfl, HR3⟩))
  refine bodyPost_ret (v := .tuple #[.slice va vn vc, .agg #[.int .i64 (q1 : Nat), .int .i64 (q2 : Nat)], .int .i64 0]) ?_ rfl ⟨va, vn, vc, rfl, ?_⟩
  · rw [results_tctK rfl]
    go_simp
    first | rfl | done
  · have hf : ∀ u v, Fr (fun z => z = b) w4 ((w4.setCell ⟨b, 0, none⟩ u).setCell ⟨b, 1, none⟩ v) := fun u v => ((Fr.refl (fun z => z = b) w4).setCell ⟨b, 0, none⟩ _ (fun _ => rfl)).setCell ⟨b, 1, none⟩ _ (fun _ => rfl)
    exact ⟨(HR4.out.1.frF (hf _ _) (fun z hz e => by omega)).mono (fun z hz => by omega), setCell_below (setCell_below HR4.out.2 _ _ _ (by omega)) _ _ _ (by omega)⟩
/-- Join, of lines that are not too many -/
def JoinK (f : FuncId) : Prop := ∀ (F : Nat → Prop) (a : Option Addr) (n c : Nat) (L : List (List Int)) (at_ m : Int) (w : World), RdL F w a n c L → sizeN (lens L) ≤ 65536 → i64b at_ → i64b m →
  Calls Try.prog f #[.slice a n c, .int .i64 at_, .int .i64 m] w fun e w' => ∃ ra k rc, e = .returned (.tuple #[.slice ra k rc, plV (joinR13 L at_ m).2.1, .int .i64 (joinR13 L at_ m).2.2]) ∧ RdL (fun x => w.heap.size ≤ x) w' ra k rc (joinR13 L at_ m).1 ∧ Below w.heap.size w w'
theorem rjoinK : JoinK 29 := fun F a n c L at_ m w h hs ha hm => rjoinC F a n c L at_ m w h (by omega) ha hm
theorem kjoinK : JoinK 28 := by
  intro F a n c L at_ m w h hs ha hm
  have hl := h.len
  by_cases h0 : at_ < 0 ∨ (L.length : Int) ≤ at_ ∨ (L.length : Int) - at_ < max 2 m
  · have ht : joinR13 L at_ m = ([], (0, 0), 2) := by unfold joinR13; rw [if_pos h0]
    rw [ht]
    rw [hl] at h0
    refine (kjoin_no a n c F L at_ m w h ha hm (by omega)).mono ?_
    rintro e w' ⟨rfl, h2⟩
    exact ⟨none, 0, 0, rfl, RdL.none0 _ _, h2⟩
  · obtain ⟨A, hA⟩ : ∃ A : Nat, at_ = A := ⟨at_.toNat, by omega⟩
    obtain ⟨N, hN⟩ : ∃ N : Nat, max 2 m = (N : Int) := ⟨(max 2 m).toNat, by omega⟩
    have ht : joinR13 L at_ m = (joinM L A N, clipP (joinM L A N) (A : Int) (joinC L A (N - 1) : Int), 0) := by
      unfold joinR13
      rw [if_neg h0, hN, hA, Int.toNat_natCast, Int.toNat_natCast]
    rw [ht]
    subst hA
    exact kjoin_ok F a n c L A N m w h hs hm hN (by omega)
end Go.Proofs.Ytfldjoiohejilaa.U
