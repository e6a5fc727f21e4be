/-
  The program's pasteLines.
  The program's often: the lines of a text that stands many times.
  pasteChars: a row put in the place of one of one's own; the text's first and last line; its boxes.
-/
import Derived.Test.YtfldjoiohejilaaKPasP
import Derived.Test.YtfldjoiohejilaaKJoinC
import Derived.Deep.RegionLaw
namespace Go.Proofs.Ytfldjoiohejilaa.U
open Go.RowKit
set_option linter.unusedVariables false
set_option linter.unusedSimpArgs false
set_option maxRecDepth 100000

set_option maxHeartbeats 4000000 in
theorem kplines_no (F G : Nat → Prop) (a : Option Addr) (n c : Nat) (L : List (List Int)) (ga : Option Addr) (gn gc : Nat) (GL : List (List Int)) (A : Nat) (m : Int) (w : World) (h : RdL F w a n c L) (hs : sizeN (lens L) ≤ 65536) (hg : RdL G w ga gn gc GL) (hgs : sizeN (lens GL) ≤ 65536) (hg0 : GL ≠ []) (hm : i64b m) (hm1 : 1 ≤ m) (hR : ¬ m * (sizeN (lens GL) : Int) ≤ 65537 - (sizeN (lens L) : Int)) :
    Calls Try.prog 54 #[.slice a n c, .int .i64 (A : Nat), .slice ga gn gc, .int .i64 m] w fun e w' => e = .returned (.tuple #[.slice none 0 0, plV (0, 0), .int .i64 3]) ∧ Below w.heap.size w w' := by
  obtain ⟨wb, hwb⟩ : ∃ wb, w.alloc (.cells #[.int .i64 0, .int .i64 0] 24) = wb := ⟨_, rfl⟩
  have hP := pzs_new w
  rw [hwb] at hP
  have hGc := size_count GL
  have hGl := List.length_pos_iff.2 hg0
  have HRO : Hid (∀ W, W = wb → Calls Try.prog 61 #[.slice a n c] W fun e w' => e = .returned (.int .i64 (65537 - (sizeN (lens L) : Int))) ∧ W = w') := by
    rintro W rfl
    exact (kroom_any F a n c L W (h.below hP.1) (by omega)).mono fun _ _ h => ⟨h.1, h.2.symm⟩
  have HRU : Hid (∀ W, W = wb → Calls Try.prog 86 #[.slice ga gn gc] W fun e w' => e = .returned (.int .i64 ((sizeN (lens GL) : Int) - 1)) ∧ W = w') := by
    rintro W rfl
    exact (krunes_any G ga gn gc GL W (hg.below hP.1) (by omega)).mono fun _ _ h => ⟨h.1, h.2.symm⟩
  obtain ⟨SL, hSL⟩ : ∃ SL, sizeN (lens L) = SL := ⟨_, rfl⟩
  obtain ⟨SG, hSG⟩ : ∃ SG, sizeN (lens GL) = SG := ⟨_, rfl⟩
  rw [hSL] at hs HRO hR
  rw [hSG] at hgs HRU hR hGc
  obtain ⟨r, hr⟩ : ∃ r : Int, 65537 - (SL : Int) = r := ⟨_, rfl⟩
  rw [hr] at HRO hR
  have hE : (SG : Int) - 1 + 1 = (SG : Int) := by omega
  obtain ⟨b, hbe⟩ : ∃ b, w.heap.size = b := ⟨_, rfl⟩
  have HTI : Hid (∀ W, W = wb → Calls Try.prog 85 #[.int .i64 r, .int .i64 (SG : Nat), .int .i64 m] W fun e w' => e = .returned (.tuple #[.int .i64 m, .bool false]) ∧ ArP b w' ∧ Hid (Below b w w')) := by
    rintro W rfl
    refine (ktimes_pos r (SG : Int) m W (by omega) (by omega) ⟨by omega, by omega⟩ (by omega) hm).mono ?_
    rintro e w' ⟨rfl, hb⟩
    have h2 := hP.below rfl hb
    rw [hbe] at h2
    exact ⟨by rw [decide_eq_false hR], h2.cells, by rw [← hbe]; rw [← hbe] at h2; exact h2.1⟩
  obtain ⟨x0, x1, z0, z1, hl⟩ := hP.cells
  have HBE := Lib.hid hbe
  have HW := Lib.hid hwb
  rw [hbe] at x0 x1 z0 z1 hl
  rw [hbe]
  clear h hg hwb hP hbe hR hSL hSG hr hg0 hGl
  go_enter Try.func54, Try.ntmps54
  go_upto_region 1 with fail
  rw [HBE.out, HW.out]
  go_wp2_with (first
    | (go_at_call 61; (refine (HRO.out _ rfl).mono ?_); rintro e wq ⟨rfl, hwq⟩; subst hwq)
    | (go_at_call 86; (refine (HRU.out _ rfl).mono ?_); rintro e wq ⟨rfl, hwq⟩; subst hwq)
    | (go_at_call 85; (refine (HTI.out _ rfl).mono ?_); rintro e w1 ⟨rfl, ⟨u0, u1, u2, u3, u4⟩, HB⟩))
  refine bodyPost_ret (v := .tuple #[.slice none 0 0, plV (0, 0), .int .i64 3]) ?_ rfl ⟨rfl, ?_⟩
  · rw [results_tctK rfl]
    go_simp
    first | rfl | done
  · (repeat' (first | (with_reducible exact HB.out) | (with_reducible refine setCell_below ?_ _ _ _ ?_) | omega))
/-- pasteLines, in its loop -/
structure PlnS (w : World) (b : Nat) (ra : Option Addr) (rm rc : Nat) (O : List (List Int)) (W : World) : Prop where
  pz : PzS w b W
  my : MyL (b + 1) W ra rm rc O
theorem PlnS.below {w W W' : World} {b : Nat} {ra : Option Addr} {rm rc : Nat} {O : List (List Int)} (h : PlnS w b ra rm rc O W) (hw : w.heap.size = b) (hb : Below W.heap.size W W') : PlnS w b ra rm rc O W' := ⟨h.pz.below hw hb, h.my.below hb⟩
theorem PlnS.more {w W : World} {b : Nat} {ra : Option Addr} {rm rc : Nat} {O : List (List Int)} (h : PlnS w b ra rm rc O W) (hw : w.heap.size = b) (G : Nat → Prop) {ga : Option Addr} {gn gc : Nat} {GL : List (List Int)} (hg : RdL G W ga gn gc GL) (hgs : sizeN (lens GL) ≤ 1073741824) (hr : rm ≤ 549755813888) :
    Calls Try.prog 81 #[.slice ga gn gc] W fun e w' => ∃ ta tc, e = .returned (.slice ta gn tc) ∧ ∃ a' c' W', Hid (∀ ty, (Builtin.append_ #[22, 22] ty #[.slice ra rm rc, .slice ta gn tc]).run Try.prog w' = .ok (.slice a' (rm + gn) c') W') ∧ Hid (PlnS w b a' (rm + gn) c' (O ++ GL) W') := by
  have hgl := hg.len
  have hgc := size_count GL
  refine (kcopies_any G ga gn gc GL W hg hgs).mono ?_
  rintro e w' ⟨ta, tc, rfl, hF, hb⟩
  have h2 := h.below hw hb
  have hlt := heap_lt h.pz.2
  have hs := hb.size
  obtain ⟨a', c', W', hrun, hmy, hbb⟩ := my_app w' (b + 1) ra rm rc O ta gn tc GL h2.my (hF.my (by omega)) (by omega) (by omega)
  refine ⟨ta, tc, rfl, a', c', W', hrun, ⟨h2.pz.1.trans (hbb.mono (by omega)), (hbb.block b (by omega)).trans h2.pz.2⟩, hmy⟩
set_option maxHeartbeats 8000000 in
theorem kplines_ok (F G : Nat → Prop) (a : Option Addr) (n c : Nat) (L : List (List Int)) (ga : Option Addr) (gn gc : Nat) (GL : List (List Int)) (A m : Nat) (w : World) (h : RdL F w a n c L) (hs : sizeN (lens L) ≤ 65536) (hg : RdL G w ga gn gc GL) (hgs : sizeN (lens GL) ≤ 65536) (hg0 : GL ≠ []) (hL0 : L ≠ []) (hA : A ≤ n) (hm1 : 1 ≤ m) (hm9 : m ≤ 9223372036854775807) (hR : sizeN (lens L) + m * sizeN (lens GL) ≤ 65537) :
    Calls Try.prog 54 #[.slice a n c, .int .i64 (A : Nat), .slice ga gn gc, .int .i64 (m : Nat)] w fun e w' => ∃ ra rm rc, e = .returned (.tuple #[.slice ra rm rc, plV (wholeQ L A GL m), .int .i64 0]) ∧ RdL (fun x => w.heap.size ≤ x) w' ra rm rc (wholeL L A GL m) ∧ Below w.heap.size w w' := by
  have hl := h.len
  have hgl := hg.len
  have hLc := size_count L
  have hGc := size_count GL
  have hLp := List.length_pos_iff.2 hL0
  have hGp := List.length_pos_iff.2 hg0
  obtain ⟨wb, hwb⟩ : ∃ wb, w.alloc (.cells #[.int .i64 0, .int .i64 0] 24) = wb := ⟨_, rfl⟩
  have hP := pzs_new w
  rw [hwb] at hP
  have HRO : Hid (∀ W, W = wb → Calls Try.prog 61 #[.slice a n c] W fun e w' => e = .returned (.int .i64 (65537 - (sizeN (lens L) : Int))) ∧ W = w') := by
    rintro W rfl
    exact (kroom_any F a n c L W (h.below hP.1) (by omega)).mono fun _ _ h => ⟨h.1, h.2.symm⟩
  have HRU : Hid (∀ W, W = wb → Calls Try.prog 86 #[.slice ga gn gc] W fun e w' => e = .returned (.int .i64 ((sizeN (lens GL) : Int) - 1)) ∧ W = w') := by
    rintro W rfl
    exact (krunes_any G ga gn gc GL W (hg.below hP.1) (by omega)).mono fun _ _ h => ⟨h.1, h.2.symm⟩
  have hmG : m ≤ m * sizeN (lens GL) := Nat.le_mul_of_pos_right m (by omega)
  have hmn : m * gn ≤ m * sizeN (lens GL) := Nat.mul_le_mul_left m (by omega)
  have hRi : (m : Int) * (sizeN (lens GL) : Int) ≤ 65537 - (sizeN (lens L) : Int) := by
    have : ((m * sizeN (lens GL) : Nat) : Int) = (m : Int) * (sizeN (lens GL) : Int) := by push_cast; rfl
    omega
  have hWl : wholeL L A GL m = L.take A ++ repLL m GL ++ L.drop A := rfl
  have hlen : A < (wholeL L A GL m).length := by
    rw [hWl]
    simp only [List.length_append, List.length_take, List.length_drop, repLL_len]
    have : GL.length ≤ m * GL.length := Nat.le_mul_of_pos_left _ (by omega)
    omega
  have hWs := wholeL_size L A GL m
  obtain ⟨SL, hSL⟩ : ∃ SL, sizeN (lens L) = SL := ⟨_, rfl⟩
  obtain ⟨SG, hSG⟩ : ∃ SG, sizeN (lens GL) = SG := ⟨_, rfl⟩
  rw [hSL] at hs HRO hRi hR hLc hWs
  rw [hSG] at hgs HRU hRi hR hGc hmG hmn hWs
  obtain ⟨r, hr⟩ : ∃ r : Int, 65537 - (SL : Int) = r := ⟨_, rfl⟩
  rw [hr] at HRO hRi
  have hE : (SG : Int) - 1 + 1 = (SG : Int) := by omega
  obtain ⟨b, hbe⟩ : ∃ b, w.heap.size = b := ⟨_, rfl⟩
  have HTI : Hid (∀ W, W = wb → Calls Try.prog 85 #[.int .i64 r, .int .i64 (SG : Nat), .int .i64 (m : Nat)] W fun e w' => e = .returned (.tuple #[.int .i64 (m : Nat), .bool true]) ∧ Hid (PlnS w b none 0 0 (repLL 0 GL) w')) := by
    rintro W rfl
    refine (ktimes_pos r (SG : Int) (m : Int) W (by omega) (by omega) ⟨by omega, by omega⟩ (by omega) ⟨by omega, by omega⟩).mono ?_
    rintro e w' ⟨rfl, hb⟩
    have h2 := hP.below rfl hb
    rw [hbe] at h2
    exact ⟨by rw [decide_eq_true hRi], h2, MyL.nil _ _⟩
  obtain ⟨Q, hQ⟩ : ∃ Q, firstR (lnL (wholeL L A GL m) A) = Q := ⟨_, rfl⟩
  have hWQ : wholeQ L A GL m = (A, Q) := by unfold wholeQ; rw [hQ]
  have HTG : Hid (∀ (W : World) (ra : Option Addr) (rm rc : Nat) (O : List (List Int)), Hid (PlnS w b ra rm rc O W ∧ rm ≤ 549755813888) → Calls Try.prog 81 #[.slice ga gn gc] W fun e w' => ∃ ta tc, e = .returned (.slice ta gn tc) ∧ ∃ a' c' W', Hid (∀ ty, (Builtin.append_ #[22, 22] ty #[.slice ra rm rc, .slice ta gn tc]).run Try.prog w' = .ok (.slice a' (rm + gn) c') W') ∧ Hid (PlnS w b a' (rm + gn) c' (O ++ GL) W')) := by
    intro W ra rm rc O hW
    have hb1 := hW.out.1.pz.1
    rw [← hbe] at hb1
    exact hW.out.1.more hbe G (hg.below hb1) (by omega) hW.out.2
  have hGwf := lines_wf (rdl_wf hg)
  obtain ⟨Wl, hWW⟩ : ∃ Wl, wholeL L A GL m = Wl := ⟨_, rfl⟩
  rw [hWW] at hWl hlen hWs hQ ⊢
  have HREP : Hid (∀ W ra rm rc, Hid (PlnS w b ra rm rc (repLL m GL) W ∧ rm ≤ 1048576) → Calls Try.prog 47 #[.slice a n c, .int .i64 (A : Nat), .int .i64 (A : Nat), .slice ra rm rc] W fun e w' => ∃ (va : Option Addr) (vn vc : Nat), e = .returned (.slice va vn vc) ∧ Hid (RdL (fun x => b + 1 ≤ x) w' va vn vc Wl ∧ PzS w b w')) := by
    intro W ra rm rc hW
    have hb1 := hW.out.1.pz.1
    rw [← hbe] at hb1
    have hzW := heap_lt hW.out.1.pz.2
    refine (kreplaced_any F _ a n c L ra rm rc (repLL m GL) A A W (h.below hb1) (hW.out.1.my.rdl (fun x hx => hGwf x (repLL_mem hx))) (by omega) (by omega) (by omega) (by omega) (by have := hW.out.2; omega)).mono ?_
    rintro e w' ⟨va, vc, rfl, hr2, hb⟩
    rw [← hWl] at hr2
    exact ⟨va, _, vc, rfl, hr2.mono (fun x hx => by rcases hx with hx | hx; exact hx; omega), hW.out.1.pz.below hbe hb⟩
  have HFI : Hid (∀ W va vn vc, Hid (RdL (fun x => b + 1 ≤ x) W va vn vc Wl ∧ PzS w b W) → Calls Try.prog 82 #[.slice va vn vc, .int .i64 (A : Nat)] W fun e w' => e = .returned (.agg #[.int .i64 (A : Nat), .int .i64 (Q : Nat)]) ∧ ArP b w' ∧ Hid (RdL (fun x => b + 1 ≤ x) w' va vn vc Wl ∧ Below b w w')) := by
    intro W va vn vc hW
    refine (kfirst_any _ va vn vc Wl A W hW.out.1 (by have := hW.out.1.len; omega)).mono ?_
    rintro e w' ⟨rfl, hb⟩
    rw [hQ]
    have h2 := hW.out.2.below hbe hb
    exact ⟨rfl, h2.cells, hW.out.1.below hb, h2.1⟩
  obtain ⟨x0, x1, z0, z1, zl⟩ := hP.cells
  have HBE := Lib.hid hbe
  have HW := Lib.hid hwb
  rw [hWQ]
  rw [hbe] at x0 x1 z0 z1 zl
  rw [hbe]
  have hgn6 : gn ≤ 1048576 := by omega
  have hm6 : m ≤ 1048576 := by omega
  have HMG : Hid (m * gn ≤ 1048576) := by show _ ≤ _; omega
  have hA6 : A ≤ 1048576 := by omega
  clear h hg hwb hP hbe hR hRi hSL hSG hr hg0 hGp hLp hL0 hLc hGc hmG hmn hGwf hWl hlen hWs hQ hWQ hWW hl hgl hA
  unfold plV
  go_enter Try.func54, Try.ntmps54
  go_upto_region 1 with fail
  rw [HBE.out, HW.out]
  go_upto_region 5 with (first
    | (go_at_call 61; (refine (HRO.out _ rfl).mono ?_); rintro e wq ⟨rfl, hwq⟩; subst hwq)
    | (go_at_call 86; (refine (HRU.out _ rfl).mono ?_); rintro e wq ⟨rfl, hwq⟩; subst hwq)
    | (go_at_call 85; (refine (HTI.out _ rfl).mono ?_); rintro e w1 ⟨rfl, HS⟩))
  clear x0 x1 z0 z1 zl
  go_wp2_with fail
  go_loopw [12, 28] (fun v12 v28 wr => ∃ (i q : Nat) (ra : Option Addr) (rc : Nat), v12 = .slice ra q rc ∧ v28 = .int .i64 (i : Nat) ∧ i ≤ m ∧ q ≤ 4194304 ∧ Hid (q = i * gn ∧ PlnS w b ra q rc (repLL i GL) wr)) (fun _ v28 _ => m - (intOf v28).toNat)
  case atStart => exact ⟨0, 0, none, 0, rfl, rfl, by omega, by omega, by show 0 = _; omega, HS.out⟩
  case round =>
    obtain ⟨i, q, ra, rc, rfl, rfl, him, hq, hst⟩ := hrel
    clear HS
    by_cases hlt : i < m
    · have HE1 : Hid (PlnS w b ra q rc (repLL i GL) wr ∧ q ≤ 549755813888) := ⟨hst.out.2, by omega⟩
      have HQ1 := Lib.hid hst.out.1
      have HRE := Lib.hid (repLL_succ i GL)
      clear hst
      go_wp2_with (first
        | (at_builtin; go_must (with_reducible refine Lib.wpList_append_run _ rfl (.tmp 30) (.tmp 32) _ _ rfl _ _ rfl rfl _ _ (HRUN3.out _) ?_))
        | (go_at_call 81; (refine (HTG.out _ _ _ _ _ HE1).mono ?_); rintro e w6 ⟨t5, t6, rfl, a4, c4, w7, HRUN3, HN⟩))
      have hq2 : q + gn ≤ 4194304 := by
        have h1 := HQ1.out
        have h2 : i * gn + gn = (i + 1) * gn := by rw [Nat.add_mul, Nat.one_mul]
        have h3 : (i + 1) * gn ≤ m * gn := Nat.mul_le_mul_right _ (by omega)
        have h4 := HMG.out
        omega
      go_roundw
      case rel => exact ⟨i + 1, q + gn, a4, c4, rfl, by go_num, by omega, hq2, by have h1 := HQ1.out; rw [Nat.add_mul, Nat.one_mul]; omega, by rw [HRE.out]; exact HN.out⟩
      case measure => simp [intOf]; omega
    · obtain rfl : i = m := by omega
      have HE3 : Hid (PlnS w b ra q rc (repLL i GL) wr ∧ q ≤ 1048576) := ⟨hst.out.2, by have := hst.out.1; have := HMG.out; omega⟩
      have hz := hst.out.2.pz.cells
      obtain ⟨z0, z1, z2, z3, zl⟩ := hz
      clear hst
      go_wp2_with (first
        | (go_at_call 82; (refine (HFI.out _ _ _ _ HR4).mono ?_); rintro e w5 ⟨rfl, ⟨u0, u1, u2, u3, u4⟩, HR5⟩)
        | (go_at_call 47; (refine (HREP.out _ _ _ _ HE3).mono ?_); rintro e w4 ⟨va, vn, vc, rfl, HR4⟩))
      refine bodyPost_ret (v := .tuple #[.slice va vn vc, .agg #[.int .i64 (A : Nat), .int .i64 (Q : Nat)], .int .i64 0]) ?_ rfl ⟨va, vn, vc, rfl, ?_⟩
      · rw [results_tctK rfl]
        go_simp
        first | rfl | done
      · have hf : ∀ u v, Fr (fun z => z = b) w5 ((w5.setCell ⟨b, 0, none⟩ u).setCell ⟨b, 1, none⟩ v) := fun u v => ((Fr.refl (fun z => z = b) w5).setCell ⟨b, 0, none⟩ _ (fun _ => rfl)).setCell ⟨b, 1, none⟩ _ (fun _ => rfl)
        exact ⟨(HR5.out.1.frF (hf _ _) (fun z hz e => by omega)).mono (fun z hz => by omega), setCell_below (setCell_below HR5.out.2 _ _ _ (by omega)) _ _ _ (by omega)⟩
end Go.Proofs.Ytfldjoiohejilaa.U

namespace Go.Proofs.Ytfldjoiohejilaa.U
open Go.RowKit
set_option linter.unusedVariables false
set_option linter.unusedSimpArgs false
set_option maxRecDepth 100000

theorem fresh_ownK {B : Nat} {w : World} {a : Option Addr} {n c : Nat} {L : List (List Int)} (h : FreshL B w a n c L) (hw : ∀ x ∈ L, ∀ y ∈ x, (Lit.int .i32 y).wf = true) : OwnL (fun k => B ≤ k ∧ k < w.heap.size) w a n c L := by
  obtain ⟨vs, h1, h2, h3, h4⟩ := h
  refine ⟨vs, own_mono h1 (Nat.zero_le _), fun k e => h1.lt k e, h2, fun i x hx => ?_, h4⟩
  obtain ⟨v, e1, e2⟩ := h3 i x hx
  exact ⟨v, e1, own_mono e2 (Nat.zero_le _), fun k e => e2.lt k e, hw x (List.mem_of_getElem? hx)⟩
/-- the text, once more -/
theorem often_step {G0 : List Int} {Gt D : List (List Int)} {y : List Int} {z : List Int} (hG : plainL (G0 :: Gt)) (h : splitL z = D ++ [y]) : splitL (z ++ joinL (G0 :: Gt)) = D ++ [y ++ G0] ++ Gt := by
  have hp := split_plain z
  rw [h] at hp
  have hj := join_split z
  rw [h, joinE_append, joinE_one] at hj
  have hj2 : joinE D ++ y = z := by
    have : (joinE D ++ y) ++ [10] = z ++ [10] := by rw [List.append_assoc]; exact hj
    exact List.append_cancel_right this
  have hg := joinE_joinL (L := G0 :: Gt) (by simp)
  rw [joinE_cons] at hg
  refine (split_uniq ?_ ?_).symm
  · intro x hx
    simp only [List.append_assoc, List.mem_append, List.mem_singleton] at hx
    rcases hx with hx | hx | hx
    · exact hp x (by simp [hx])
    · subst hx
      intro h10
      rcases List.mem_append.1 h10 with h10 | h10
      · exact hp y (by simp) h10
      · exact hG G0 (by simp) h10
    · exact hG x (by simp [hx])
  · rw [joinE_append, joinE_append, joinE_one, ← hj2]
    have : joinE D ++ (y ++ G0 ++ [10]) ++ joinE Gt = (joinE D ++ y) ++ (G0 ++ 10 :: joinE Gt) := by simp
    rw [this, hg]
    simp
theorem split_snocD (z : List Int) : ∃ D y, splitL z = D ++ [y] := ⟨_, _, (List.dropLast_concat_getLast (splitL_ne z)).symm⟩
theorem split_last_len {z : List Int} {D : List (List Int)} {y : List Int} (h : splitL z = D ++ [y]) : y.length ≤ z.length ∧ D.length ≤ z.length := by
  have h1 := split_sum z
  have h2 := split_count z
  rw [h] at h1 h2
  rw [lens_append, sizeN_append] at h1
  have h3 : sizeN (lens [y]) = y.length + 1 := by simp [lens, sizeN]
  rw [List.length_append] at h2
  simp at h2
  omega
theorem split_wf {z : List Int} (h : ∀ y ∈ z, (Lit.int .i32 y).wf = true) : ∀ x ∈ splitL z, ∀ y ∈ x, (Lit.int .i32 y).wf = true := by
  intro x hx y hy
  have hj := join_split z
  have h1 : y ∈ joinE (splitL z) := by
    unfold joinE
    exact List.mem_flatMap.2 ⟨x, hx, List.mem_append_left _ hy⟩
  rw [hj] at h1
  rcases List.mem_append.1 h1 with h1 | h1
  · exact h y h1
  · rw [List.mem_singleton] at h1
    subst h1
    decide
/-- the text in memory -/
structure OtS (w : World) (a : Option Addr) (n c : Nat) (T : List (List Int)) (W : World) : Prop where
  own : OwnL (fun k => w.heap.size ≤ k ∧ k < W.heap.size) W a n c T
  hb : Below w.heap.size w W
theorem OtS.below {w W W' : World} {a : Option Addr} {n c : Nat} {T : List (List Int)} (h : OtS w a n c T W) (hb : Below W.heap.size W W') : OtS w a n c T W' :=
  ⟨(h.own.below hb).mono (fun k _ hk => ⟨hk.1, by have := hb.size; omega⟩), h.hb.trans (hb.mono h.hb.size)⟩
theorem OtS.ext {w W : World} {a : Option Addr} {k q c : Nat} {D : List (List Int)} {y : List Int} (h : OtS w a q c (D ++ [y]) W) (hq : q = k + 1) {z : List Int} {za : Option Addr} {zn zc : Nat} (hz : Rd .i32 W za zn zc z) (hy : y.length + zn ≤ 2097152) :
    ∃ g ra rc a' c' w3, a = some ⟨g, 0, none⟩ ∧ w.heap.size ≤ g ∧ g < W.heap.size ∧ W.cell? ⟨g, k, none⟩ = some (.slice ra y.length rc) ∧
      (∀ ty, (Builtin.append_ #[35, 35] ty #[.slice ra y.length rc, .slice za zn zc]).run Try.prog W = .ok (.slice a' (y.length + zn) c') w3) ∧
      (∃ u, w3.cell? ⟨g, k, none⟩ = some u) ∧ w3.frozen? ⟨g, k, none⟩ = false ∧ g < w3.heap.size ∧ OtS w a q c (D ++ [y ++ z]) (w3.setCell ⟨g, k, none⟩ (.slice a' (y.length + zn) c')) := by
  subst hq
  obtain ⟨g, ra, rc, a', c', w3, rfl, h1, h2, h3, h4, h5, h6, h7, h8, h9⟩ := own_ext W _ k c a D y z za zn zc h.own hz hz.2.2.2.1 hy
  have hgB : w.heap.size ≤ g := by
    obtain ⟨vs, o1, o2, -⟩ := h.own
    exact (o2 g rfl).1
  have hs := h9.size
  refine ⟨g, ra, rc, a', c', w3, rfl, hgB, h1, h2, h3, h4, h5, h6, h8.mono (fun x hx q => ?_), h.hb.trans (h9.below h.hb.size (fun x hx => hx.1))⟩
  rcases q with q | q
  · exact ⟨q.1, hx⟩
  · exact ⟨by have := h.hb.size; omega, hx⟩
theorem OtS.app {w W w5 : World} {a : Option Addr} {n c : Nat} {T : List (List Int)} (h : OtS w a n c T W) (hb5 : Below W.heap.size W w5) {ta : Option Addr} {m d : Nat} {M : List (List Int)} (hF : FreshL W.heap.size w5 ta m d M) (hw : ∀ x ∈ M, ∀ y ∈ x, (Lit.int .i32 y).wf = true) (hn : n + m ≤ 1099511627776) :
    ∃ a' c' w', (∀ ty, (Builtin.append_ #[22, 22] ty #[.slice a n c, .slice ta m d]).run Try.prog w5 = .ok (.slice a' (n + m) c') w') ∧ OtS w a' (n + m) c' (T ++ M) w' := by
  have ho := (h.own.below hb5)
  obtain ⟨us, u1, u2, u3⟩ := fresh_ownK hF hw
  obtain ⟨a', c', w', hrun, hown, hfr⟩ := own_app w5 _ _ a n c T ta m d us M ho (Rc.own u1) u3 (fun x h1 h2 => by omega) hn
  refine ⟨a', c', w', hrun, hown.mono (fun x hx q => ?_), (h.hb.trans (hb5.mono h.hb.size)).trans (hfr.below (by have := h.hb.size; have := hb5.size; omega) (fun x hx => hx.1))⟩
  have h1 := h.hb.size
  have h2 := hb5.size
  rcases q with q | q | q
  · exact ⟨q.1, hx⟩
  · exact ⟨by omega, hx⟩
  · exact ⟨by omega, hx⟩
theorem ots_start (w : World) : OtS w (some ⟨w.heap.size, 0, none⟩) 1 1 (splitL []) (w.alloc (.cells #[.slice none 0 0] 35)) :=
  ⟨(fresh_ownK (fresh_one w) (by intro x hx y hy; have h2 : x ∈ [([] : List Int)] := hx; rw [List.mem_singleton] at h2; subst h2; simp at hy)), bal _ _⟩
set_option maxHeartbeats 8000000 in
theorem koften_any (G : Nat → Prop) (ga : Option Addr) (gn gc : Nat) (GL : List (List Int)) (m : Nat) (w : World) (hg : RdL G w ga gn gc GL) (hgs : sizeN (lens GL) ≤ 65537) (hg0 : GL ≠ []) (hp : plainL GL) (hm : m ≤ 1048576) (hmb : m * (joinL GL).length ≤ 1048576) :
    Calls Try.prog 90 #[.slice ga gn gc, .int .i64 (m : Nat)] w fun e w' => ∃ a n c, e = .returned (.slice a n c) ∧ OtS w a n c (splitL (repL m (joinL GL))) w' := by
  have hgl := hg.len
  have hGc := size_count GL
  have hGp := List.length_pos_iff.2 hg0
  obtain ⟨gb, go_, rfl, hgb, -, hrow⟩ := hg.at_ (by omega)
  obtain ⟨G0, Gt, hGG⟩ : ∃ G0 Gt, GL = G0 :: Gt := List.exists_cons_of_ne_nil hg0
  obtain ⟨r0, rc0, hcell0, hrd0, -⟩ := hrow 0 G0 (by rw [hGG]; rfl)
  rw [Nat.add_zero] at hcell0
  have hGwf := lines_wf (rdl_wf hg)
  have hnc : gn ≤ gc ∧ gc ≤ 9223372036854775807 := by obtain ⟨vs, h1, _⟩ := hg; have := h1.2.1; have := h1.2.2.1; unfold maxLen at this; exact ⟨by omega, by omega⟩
  obtain ⟨hnc, hcs⟩ := hnc
  have hG0l : G0.length ≤ 65537 := by
    have hm : G0.length ∈ lens GL := List.mem_map.2 ⟨_, by rw [hGG]; simp, rfl⟩
    have := sizeN_mem hm
    omega
  have hrep : ∀ i, i ≤ m → (repL i (joinL GL)).length ≤ 1048576 := by
    intro i hi
    rw [repL_len]
    have : i * (joinL GL).length ≤ m * (joinL GL).length := Nat.mul_le_mul_right _ hi
    omega
  obtain ⟨da, hda⟩ : ∃ da, (if gc = 1 then some (⟨gb, go_, none⟩ : Addr) else (some (⟨gb, go_, none⟩ : Addr)).map (·.add (1 * 1))) = da := ⟨_, rfl⟩
  have hGt : GL.drop 1 = Gt := by rw [hGG]; rfl
  have HCP : Hid (∀ W a q c T, Hid (OtS w a q c T W ∧ q ≤ 2097152) → Calls Try.prog 81 #[.slice da (gn - 1) (gc - 1)] W fun e w' => ∃ ta tc, e = .returned (.slice ta (gn - 1) tc) ∧ ∃ a' c' W', Hid (∀ ty, (Builtin.append_ #[22, 22] ty #[.slice a q c, .slice ta (gn - 1) tc]).run Try.prog w' = .ok (.slice a' (q + (gn - 1)) c') W') ∧ Hid (OtS w a' (q + (gn - 1)) c' (T ++ Gt) W')) := by
    intro W a q c T hW
    have hd := (hg.below hW.out.1.hb).drop 1 (by omega)
    rw [hda, hGt] at hd
    refine (kcopies_any G da (gn - 1) (gc - 1) Gt W hd (by rw [← hGt, show lens (GL.drop 1) = (lens GL).drop 1 by unfold lens; rw [List.map_drop]]; have := sizeN_drop_le2 (lens GL) 1; omega)).mono ?_
    rintro e w' ⟨ta, tc, rfl, hF, hb⟩
    obtain ⟨a', c', W', hrun, hN⟩ := hW.out.1.app hb hF (fun x hx => hGwf x (by rw [hGG]; simp [hx])) (by have := hW.out.2; omega)
    exact ⟨ta, tc, rfl, a', c', W', hrun, hN⟩
  have HST : Hid (OtS w (some ⟨w.heap.size, 0, none⟩) 1 1 (splitL (repL 0 (joinL GL))) (w.alloc (.cells #[.slice none 0 0] 35))) := by
    have : repL 0 (joinL GL) = [] := rfl
    rw [this]
    exact ots_start w
  have HRD : Hid (Rd .i32 w r0 G0.length rc0 G0) := hrd0
  have HREP := Lib.hid hrep
  have HPL : Hid (∀ i D y, splitL (repL i (joinL GL)) = D ++ [y] → splitL (repL (i + 1) (joinL GL)) = D ++ [y ++ G0] ++ Gt) := by
    intro i D y h
    rw [repL_succ]
    have := often_step (by rw [← hGG]; exact hp) h
    rw [← hGG] at this
    exact this
  obtain ⟨n0, hn0⟩ : ∃ n0, G0.length = n0 := ⟨_, rfl⟩
  rw [hn0] at hcell0 hG0l HRD
  have hgn1 : 1 ≤ gn := by omega
  have hgn0 : 0 < gn := by omega
  have hgni : (0 : Int) < (gn : Int) := by omega
  have hgni1 : (1 : Int) ≤ (gn : Int) := by omega
  have hgn6 : gn ≤ 65537 := by omega
  clear hg hgl hGc hGp hrow hGG hrd0 hGwf hrep hGt hn0 hg0 hp hgs hmb
  go_enter Try.func90, Try.ntmps90
  go_upto_region 2 with fail
  go_wp2_with fail
  go_loopw [5, 6, 9] (fun v5 v6 v9 wr => ∃ (i q : Nat) (ra : Option Addr) (rc : Nat), v9 = .int .i64 (i : Nat) ∧ v5 = .slice ra q rc ∧ i ≤ m ∧ q ≤ 2097152 ∧ Hid (OtS w ra q rc (splitL (repL i (joinL GL))) wr)) (fun _ _ v9 _ => m - (intOf v9).toNat)
  case atStart => exact ⟨0, 1, _, 1, rfl, rfl, by omega, by omega, HST.out⟩
  case round =>
    obtain ⟨i, q, ra, rc, rfl, rfl, him, hq, hst⟩ := hrel
    clear HST
    by_cases hlt : i < m
    · obtain ⟨D, y, hDy⟩ := split_snocD (repL i (joinL GL))
      have hll := split_last_len hDy
      have hri := HREP.out i him
      have hsp := HPL.out i D y hDy
      have hst2 := hst.out
      rw [hDy] at hst2
      have hql : q = D.length + 1 := by have := hst2.own.len; simp at this; omega
      obtain ⟨k, hk⟩ : ∃ k, D.length = k := ⟨_, rfl⟩
      rw [hk] at hql
      have hqi : (q : Int) - 1 = (k : Int) := by omega
      have hkq : k < q := by omega
      have hkqi : (k : Int) < (q : Int) := by omega
      have hk0 : (0 : Int) ≤ (k : Int) := by omega
      have hcw := (hst2.hb.cell (p := ⟨gb, go_, none⟩) hgb).trans hcell0
      obtain ⟨g, sa, sc, a', c', w3, rfl, hg1, hg2, hg3, hrun, hu, hfz, hgl, hN⟩ := (hst2.below (Below.refl _ _).drew).ext hql ((HRD.out.below hst2.hb).drew) (by omega)
      have hg2' : g < wr.heap.size := hg2
      have hg3' : wr.cell? ⟨g, k, none⟩ = some (.slice sa y.length sc) := hg3
      have hgbr : gb < wr.heap.size := by have := hst2.hb.size; omega
      have hne : ¬ gb = g := by omega
      have HRUN := Lib.hid hrun
      have HN1 : Hid (OtS w (some ⟨g, 0, none⟩) q rc (D ++ [y ++ G0]) (w3.setCell ⟨g, k, none⟩ (.slice a' (y.length + n0) c')) ∧ q ≤ 2097152) := ⟨hN, hq⟩
      have HSP := Lib.hid hsp
      have HQL : Hid (q + (gn - 1) ≤ 2097152) := by
        show _ ≤ _
        have h1 := split_count (repL (i + 1) (joinL GL))
        have h2 := HREP.out (i + 1) (by omega)
        have h3 := congrArg List.length hsp
        simp only [List.length_append, List.length_cons, List.length_nil] at h3
        have h4 : Gt.length ≤ (splitL (repL (i + 1) (joinL GL))).length := by omega
        omega
      obtain ⟨u, hu⟩ := hu
      obtain ⟨ny, hny⟩ : ∃ ny, y.length = ny := ⟨_, rfl⟩
      rw [hny] at HRUN HN1 hg3' hg3
      have hn6 : ny ≤ 1048576 := by omega
      clear hst hst2 hDy hll hri hsp hql hk hrun hN hny
      go_upto_region 5 with fail
      go_cut [6] (fun v6 wx => wx = w3.setCell ⟨g, k, none⟩ (.slice a' (ny + n0) c'))
      case first =>
        go_region_law (refine step_append_run rfl (.tmp 19) (.tmp 22) _ _ rfl _ _ (by simp [Act.eval, Act.put]) (by simp [Act.eval, Act.put]) (HRUN.out _) ?_)
        all_goals
          go_wp2_with fail
          go_meet
          rfl
      case rest =>
        obtain rfl := hcut
        clear hcw hg2 hg3 hg2' hg3' hu hfz hgl HRUN
        obtain ⟨w5, hw5⟩ : ∃ w5, w3.setCell ⟨g, k, none⟩ (.slice a' (ny + n0) c') = w5 := ⟨_, rfl⟩
        rw [hw5] at HN1
        rw [hw5]
        clear hw5
        by_cases hc1 : gc = 1
        · rw [if_pos hc1] at hda
          subst hda
          subst hc1
          obtain rfl : gn = 1 := by omega
          simp only [Nat.sub_self, Nat.add_zero] at HCP HQL
          go_wp2_with (first
            | (at_builtin; go_must (with_reducible refine Lib.wpList_append_run _ rfl (.tmp 25) (.tmp 28) _ _ rfl _ _ rfl rfl _ _ (HRUN3.out _) ?_))
            | (go_at_call 81; (refine (HCP.out _ _ _ _ _ HN1).mono ?_); rintro e w6 ⟨t5, t6, rfl, a4, c4, w7, HRUN3, HN⟩))
          go_roundw
          case rel => exact ⟨i + 1, q, a4, c4, by go_num, rfl, by omega, HQL.out, by rw [HSP.out]; exact HN.out⟩
          case measure => simp [intOf]; omega
        · have hc2 : 1 ≤ gc := by omega
          rw [if_neg hc1] at hda
          simp only [Option.map_some, Nat.mul_one, add_lit] at hda
          subst hda
          go_wp2_with (first
            | (at_builtin; go_must (with_reducible refine Lib.wpList_append_run _ rfl (.tmp 25) (.tmp 28) _ _ rfl _ _ rfl rfl _ _ (HRUN3.out _) ?_))
            | (go_at_call 81; (refine (HCP.out _ _ _ _ _ HN1).mono ?_); rintro e w6 ⟨t5, t6, rfl, a4, c4, w7, HRUN3, HN⟩))
          go_roundw
          case rel => exact ⟨i + 1, q + (gn - 1), a4, c4, by go_num, rfl, by omega, HQL.out, by rw [HSP.out]; exact HN.out⟩
          case measure => simp [intOf]; omega
    · obtain rfl : i = m := by omega
      have HF := hst
      clear hst
      go_wp2_with fail
      go_ret
      exact ⟨_, _, _, rfl, HF.out⟩
end Go.Proofs.Ytfldjoiohejilaa.U

namespace Go.Proofs.Ytfldjoiohejilaa.U
open Go.RowKit
set_option linter.unusedVariables false
set_option linter.unusedSimpArgs false
set_option maxRecDepth 100000

/-- a new row in the place of line i -/
theorem own_put {w w1 : World} {G : Nat → Prop} {g n c i : Nat} {L : List (List Int)} {x : List Int} {v : Value} (h : OwnL G w (some ⟨g, 0, none⟩) n c L) (hi : i < n) (hb : Below w.heap.size w w1) (hv : w1.ownsRow w.heap.size 21 1 v x.length (ints x)) (hx : ∀ y ∈ x, (Lit.int .i32 y).wf = true) :
    OwnL (fun k => G k ∨ w.heap.size ≤ k) (w1.setCell ⟨g, i, none⟩ v) (some ⟨g, 0, none⟩) n c (L.set i x) ∧ G g ∧ g < w.heap.size ∧ (∃ u, w1.cell? ⟨g, i, none⟩ = some u) ∧ w1.frozen? ⟨g, i, none⟩ = false ∧ g < w1.heap.size := by
  have hl := h.len
  obtain ⟨vs, h1, hG1, h2, h3, h4⟩ := h
  have hgG : G g := hG1 g (by simp [Value.ownBlock])
  have hgl := (h1.lt g (by simp [Value.ownBlock])).2
  rcases h1.2 with ⟨_, e0⟩ | ⟨g0, cap, cur, ev, hgB, hgw, hnc, hcm, hcs, htk⟩
  · omega
  injection ev with ev1 ev2 ev3
  injection ev1 with ev1
  injection ev1 with ev1
  subst ev1 ev3
  have hgw1 := (hb.block g hgl).trans hgw
  have hvl : vs.length = n := by omega
  have fset : Fr (fun q => q = g) w1 (w1.setCell ⟨g, i, none⟩ v) := (Fr.refl _ _).setCell _ _ (fun _ => rfl)
  have far : ∀ {B' n' : Nat} {u : Value} {xs : List Value}, w1.ownsRow B' 21 1 u n' xs → (w1.setCell ⟨g, i, none⟩ v).ownsRow B' 21 1 u n' xs := fun ho => own_fr ho fset (fun b e => row_block_apart ho hgw1 (by decide) e)
  have fb : ∀ {B' n' : Nat} {u : Value} {xs : List Value}, w.ownsRow B' 21 1 u n' xs → w1.ownsRow B' 21 1 u n' xs := fun ho => own_fr ho (Fr.of_below (fun _ => False) hb) (fun _ _ h => h)
  refine ⟨⟨vs.set i v, ⟨by simp; omega, .inr ⟨g, c, _, rfl, hgB, heap_set hgw1 i v, hnc, hcm, by simpa using hcs, ?_⟩⟩, fun q e => .inl (hG1 q e), by simp [h2], ?_, ?_⟩, hgG, hgl, ⟨_, (cell_row hgw1 i).trans (Array.getElem?_eq_getElem (by omega))⟩, frozen_row hgw1 i, heap_lt hgw1⟩
  · rw [Array.toList_setIfInBounds, List.take_set, htk]
  · intro j y hy
    by_cases e : j = i
    · subst e
      rw [List.getElem?_set_self (by omega)] at hy
      cases hy
      exact ⟨v, by rw [List.getElem?_set_self (by omega)], far (own_mono hv (Nat.zero_le _)), fun k e => .inr (hv.lt k e).1, hx⟩
    · rw [List.getElem?_set_ne (fun h => e h.symm)] at hy
      obtain ⟨u, f1, f2, f3, f4⟩ := h3 j y hy
      exact ⟨u, by rw [List.getElem?_set_ne (fun h => e h.symm)]; exact f1, far (fb f2), fun k e => .inl (f3 k e), f4⟩
  · intro j k vi vj hjk hi' hj' b eb
    by_cases e1 : j = i
    · subst e1
      rw [List.getElem?_set_self (by omega)] at hi'
      cases hi'
      rw [List.getElem?_set_ne (by omega)] at hj'
      have hkl := (List.getElem?_eq_some_iff.1 hj').1
      obtain ⟨u, f1, f2, -⟩ := h3 k _ (List.getElem?_eq_getElem (by omega))
      rw [hj'] at f1
      cases f1
      intro e3
      have := (f2.lt b e3).2
      have := (hv.lt b eb).1
      omega
    · rw [List.getElem?_set_ne (fun h => e1 h.symm)] at hi'
      by_cases e2 : k = i
      · subst e2
        rw [List.getElem?_set_self (by omega)] at hj'
        cases hj'
        have hjl := (List.getElem?_eq_some_iff.1 hi').1
        obtain ⟨u, f1, f2, -⟩ := h3 j _ (List.getElem?_eq_getElem (by omega))
        rw [hi'] at f1
        cases f1
        intro e3
        have := (f2.lt b eb).2
        have := (hv.lt b e3).1
        omega
      · rw [List.getElem?_set_ne (fun h => e2 h.symm)] at hj'
        exact h4 j k vi vj hjk hi' hj' b eb
/-- plain runes ahead of a text -/
theorem split_prefix {u z : List Int} (hu : (10 : Int) ∉ u) : splitL (u ++ z) = (splitL z).set 0 (u ++ (splitL z).getD 0 []) := by
  obtain ⟨h, t, hz⟩ := splitL_hd z
  have hp := split_plain z
  have hj := join_split z
  rw [hz] at hp hj ⊢
  rw [joinE_cons] at hj
  refine (split_uniq ?_ ?_).symm
  · intro x hx
    simp only [List.set_cons_zero, List.getD_cons_zero, List.mem_cons] at hx
    rcases hx with hx | hx
    · subst hx
      intro h10
      rcases List.mem_append.1 h10 with h10 | h10
      · exact hu h10
      · exact hp h (by simp) h10
    · exact hp x (by simp [hx])
  · simp only [List.set_cons_zero, List.getD_cons_zero, joinE_cons]
    rw [List.append_assoc, List.append_assoc, ← hj]
/-- plain runes behind a text -/
theorem split_suffix {D : List (List Int)} {y u z : List Int} (hu : (10 : Int) ∉ u) (h : splitL z = D ++ [y]) : splitL (z ++ u) = D ++ [y ++ u] := by
  have h1 := often_step (G0 := u) (Gt := []) (by intro x hx; rw [List.mem_singleton] at hx; subst hx; exact hu) h
  have h2 : joinL [u] = u := joinL_of (by rw [joinE_one])
  rw [h2, List.append_nil] at h1
  exact h1
/-- pasteChars: the place's box, the result's, the new place's at d -/
structure PcS (w : World) (b d : Nat) (q : Pl) (tc : Int) (W : World) : Prop where
  hb : Below b w W
  p : W.heap[b]? = some (.cells #[.int .i64 (q.1 : Nat), .int .i64 (q.2 : Nat)] 24 (0, 0))
  z : W.heap[b + 1]? = some (.cells #[.int .i64 0, .int .i64 0] 24 (0, 0))
  tb : W.heap[d]? = some (.cells #[.int .i64 (q.1 : Nat), .int .i64 tc] 24 (0, 0))
  bd : b + 1 < d
theorem PcS.fr {w W W' : World} {b d : Nat} {q : Pl} {tc : Int} {F : Nat → Prop} (h : PcS w b d q tc W) (hw : w.heap.size = b) (hf : Fr F W W') (hF : ∀ k, F k → d < k) : PcS w b d q tc W' := by
  have hbd := h.bd
  have hd := heap_lt h.tb
  refine ⟨h.hb.trans (hf.below (by omega) (fun k hk => by have := hF k hk; omega)), (hf.block _ (by omega) (fun hk => by have := hF _ hk; omega)).trans h.p, (hf.block _ (by omega) (fun hk => by have := hF _ hk; omega)).trans h.z, (hf.block _ (by omega) (fun hk => by have := hF _ hk; omega)).trans h.tb, h.bd⟩
theorem PcS.below {w W W' : World} {b d : Nat} {q : Pl} {tc : Int} (h : PcS w b d q tc W) (hw : w.heap.size = b) (hb : Below W.heap.size W W') : PcS w b d q tc W' :=
  h.fr hw (Fr.of_below (fun _ => False) hb) (fun _ hk => hk.elim)
/-- and the text -/
structure PtS (w : World) (b d : Nat) (q : Pl) (tc : Int) (g n c : Nat) (T : List (List Int)) (W : World) : Prop where
  pc : PcS w b d q tc W
  own : OwnL (fun k => d < k ∧ k < W.heap.size) W (some ⟨g, 0, none⟩) n c T
theorem PtS.below {w W W' : World} {b d : Nat} {q : Pl} {tc : Int} {g n c : Nat} {T : List (List Int)} (h : PtS w b d q tc g n c T W) (hw : w.heap.size = b) (hb : Below W.heap.size W W') : PtS w b d q tc g n c T W' :=
  ⟨h.pc.below hw hb, (h.own.below hb).mono (fun k _ hk => ⟨hk.1, by have := hb.size; omega⟩)⟩
theorem PtS.put {w W w1 : World} {b d : Nat} {q : Pl} {tc : Int} {g n c i : Nat} {T : List (List Int)} {x : List Int} {v : Value} (h : PtS w b d q tc g n c T W) (hw : w.heap.size = b) (hi : i < n) (hb : Below W.heap.size W w1) (hv : w1.ownsRow W.heap.size 21 1 v x.length (ints x)) (hx : ∀ y ∈ x, (Lit.int .i32 y).wf = true) :
    (∃ u, w1.cell? ⟨g, i, none⟩ = some u) ∧ w1.frozen? ⟨g, i, none⟩ = false ∧ g < w1.heap.size ∧ PtS w b d q tc g n c (T.set i x) (w1.setCell ⟨g, i, none⟩ v) := by
  obtain ⟨h1, h2, h3, h4, h5, h6⟩ := own_put h.own hi hb hv hx
  have hd := heap_lt h.pc.tb
  have fset : Fr (fun k => k = g) w1 (w1.setCell ⟨g, i, none⟩ v) := (Fr.refl _ _).setCell _ _ (fun _ => rfl)
  refine ⟨h4, h5, h6, (h.pc.below hw hb).fr hw fset (fun k hk => by subst hk; exact h2.1), h1.mono (fun k hk q => ?_)⟩
  rcases q with q | q
  · exact ⟨q.1, hk⟩
  · exact ⟨by omega, hk⟩
theorem PtS.ext {w W : World} {b d : Nat} {q : Pl} {tc : Int} {g k n c : Nat} {D : List (List Int)} {y : List Int} (h : PtS w b d q tc g n c (D ++ [y]) W) (hw : w.heap.size = b) (hn : n = k + 1) {z : List Int} {za : Option Addr} {zn zc : Nat} (hz : Rd .i32 W za zn zc z) (hy : y.length + zn ≤ 2097152) :
    ∃ ra rc a' c' w3, d < g ∧ g < W.heap.size ∧ W.cell? ⟨g, k, none⟩ = some (.slice ra y.length rc) ∧
      (∀ ty, (Builtin.append_ #[35, 35] ty #[.slice ra y.length rc, .slice za zn zc]).run Try.prog W = .ok (.slice a' (y.length + zn) c') w3) ∧
      (∃ u, w3.cell? ⟨g, k, none⟩ = some u) ∧ w3.frozen? ⟨g, k, none⟩ = false ∧ g < w3.heap.size ∧ PtS w b d q tc g n c (D ++ [y ++ z]) (w3.setCell ⟨g, k, none⟩ (.slice a' (y.length + zn) c')) := by
  subst hn
  obtain ⟨g0, ra, rc, a', c', w3, e0, h1, h2, h3, h4, h5, h6, h7, h8, h9⟩ := own_ext W _ k c _ D y z za zn zc h.own hz hz.2.2.2.1 hy
  cases e0
  have hg : d < g := by
    obtain ⟨vs, o1, o2, -⟩ := h.own
    exact (o2 g rfl).1
  have hd := heap_lt h.pc.tb
  refine ⟨ra, rc, a', c', w3, hg, h1, h2, h3, h4, h5, h6, h.pc.fr hw h9 (fun x hx => hx.1), h8.mono (fun x hx q => ?_)⟩
  rcases q with q | q
  · exact ⟨q.1, hx⟩
  · exact ⟨by omega, hx⟩
end Go.Proofs.Ytfldjoiohejilaa.U
