/-
  The document's Shift. (MADE by wip/tools/gen_jshift.py.)
-/
import Derived.Test.YtfldjoiohejilaaKShift
import Derived.Test.YtfldjoiohejilaaJHdT
namespace Go.Proofs.Ytfldjoiohejilaa.U
open Go.RowKit
set_option linter.unusedVariables false
set_option linter.unusedSimpArgs false
set_option maxRecDepth 100000

theorem HdT.row {B : Nat} {w : World} {g n c : Nat} {L : List (List Int)} {i : Nat} {x : List Int} (h : HdT B w (some ⟨g, 0, none⟩) n c L) (hx : L[i]? = some x) :
    ∃ ra rc, w.cell? ⟨g, i, none⟩ = some (.slice ra x.length rc) ∧ w.frozen? ⟨g, i, none⟩ = false ∧ g < w.heap.size ∧ B ≤ g ∧ RdT B w ra x.length rc x := by
  have hl := h.len
  obtain ⟨vs, h1, h2⟩ := h
  obtain ⟨ra, m, rc, e1, e2⟩ := h2.2 i x hx
  obtain rfl : x.length = m := e2.1.1
  obtain ⟨hB, hgl⟩ := h1.lt g (by simp [Value.ownBlock])
  obtain ⟨cur, hg⟩ := own_heap h1 (k := g) (by simp [Value.ownBlock])
  have hin : i < n := by have := (List.getElem?_eq_some_iff.1 hx).1; omega
  obtain ⟨g', off, ea, -, hc⟩ := (Rc.own h1).at_ (by omega)
  cases ea
  have := hc i _ e1
  rw [Nat.zero_add] at this
  exact ⟨ra, rc, this, frozen_row hg i, hgl, hB, e2⟩
theorem HdT.setRow {B : Nat} {w : World} {g n c : Nat} {L : List (List Int)} {i : Nat} {x : List Int} {ra : Option Addr} {m rc : Nat} (h : HdT B w (some ⟨g, 0, none⟩) n c L) (hi : i < n) (hr : RdT B w ra m rc x) : HdT B (w.setCell ⟨g, i, none⟩ (.slice ra m rc)) (some ⟨g, 0, none⟩) n c (L.set i x) := by
  have hl := h.len
  obtain ⟨vs, h1, h2⟩ := h
  obtain ⟨cur, hg⟩ := own_heap h1 (k := g) (by simp [Value.ownBlock])
  have hf : Fr (fun k => k = g) w (w.setCell ⟨g, i, none⟩ (.slice ra m rc)) := (Fr.refl (fun k => k = g) w).setCell ⟨g, i, none⟩ _ (fun _ => rfl)
  have far : ∀ {ra : Option Addr} {m rc : Nat} {x : List Int}, RdT B w ra m rc x → RdT B (w.setCell ⟨g, i, none⟩ (.slice ra m rc)) ra m rc x := fun hr => hr.fr ((Fr.refl (fun k => k = g) w).setCell ⟨g, i, none⟩ _ (fun _ => rfl)) (fun k e cur2 hc => by
    subst e
    rw [hg] at hc
    injection hc with hc
    injection hc with _ hc
    revert hc
    decide)
  have far2 : ∀ {ra' : Option Addr} {m' rc' : Nat} {x' : List Int}, RdT B w ra' m' rc' x' → RdT B (w.setCell ⟨g, i, none⟩ (.slice ra m rc)) ra' m' rc' x' := fun hr => hr.fr hf (fun k e cur2 hc => by
    subst e
    rw [hg] at hc
    injection hc with hc
    injection hc with _ hc
    revert hc
    decide)
  refine ⟨vs.set i (.slice ra m rc), own_set h1 (by omega) _, by simp [h2.1], fun j z hz => ?_⟩
  by_cases e : j = i
  · subst e
    rw [List.getElem?_set_self (by omega)] at hz
    cases hz
    exact ⟨ra, m, rc, by rw [List.getElem?_set_self (by have := h2.1; omega)], far2 hr⟩
  · rw [List.getElem?_set_ne (fun h => e h.symm)] at hz
    obtain ⟨ra', m', rc', e1, e2⟩ := h2.2 j z hz
    exact ⟨ra', m', rc', by rw [List.getElem?_set_ne (fun h => e h.symm)]; exact e1, far2 e2⟩
structure SdS (w : World) (b g n tc : Nat) (M : List (List Int)) (W : World) : Prop where
  h : HdT b W (some ⟨g, 0, none⟩) n tc M
  hb : Below b w W
  l : b ≤ W.heap.size
theorem SdS.below {w W W' : World} {b g n tc : Nat} {M : List (List Int)} (h : SdS w b g n tc M W) (hb : Below W.heap.size W W') : SdS w b g n tc M W' :=
  ⟨h.h.below hb, h.hb.trans (hb.mono h.l), by have := h.l; have := hb.size; omega⟩
theorem SdS.put {w W : World} {b g n tc : Nat} {M : List (List Int)} {i : Nat} {x z : List Int} {ra : Option Addr} {m rc : Nat} (h : SdS w b g n tc M W) (hz : M[i]? = some z) (hr : RdT b W ra m rc x) : SdS w b g n tc (M.set i x) (W.setCell ⟨g, i, none⟩ (.slice ra m rc)) := by
  obtain ⟨-, -, -, -, -, hB, -⟩ := h.h.row hz
  have hl := h.h.len
  have hi := (List.getElem?_eq_some_iff.1 hz).1
  have hlw := h.l
  exact ⟨h.h.setRow (by omega) hr, Below.setCell h.hb (by exact hB) _, by simpa using hlw⟩
theorem shiftL_at (L : List (List Int)) (by_ : Int) (A j : Nat) (h : A + j < L.length) : (shiftL L by_ A j)[A + j]? = some (lnL L (A + j)) := by
  have hl : (L.take A ++ thrL (fun i => shiftX by_ (lnL L i)) A j).length = A + j := by
    rw [List.length_append, List.length_take, thrL_len]; omega
  rw [shiftL_parts L by_ A j (by omega), List.getElem?_append_right (by omega), hl, Nat.sub_self, List.getElem?_drop, Nat.add_zero, List.getElem?_eq_getElem h]
  rw [lnL_of (List.getElem?_eq_getElem h)]
theorem shiftL_set (L : List (List Int)) (by_ : Int) (A j : Nat) (h : A + j < L.length) : shiftL L by_ A (j + 1) = (shiftL L by_ A j).set (A + j) (shiftX by_ (lnL L (A + j))) := by
  have hl : (L.take A ++ thrL (fun i => shiftX by_ (lnL L i)) A j).length = A + j := by
    rw [List.length_append, List.length_take, thrL_len]; omega
  rw [shiftL_parts L by_ A j (by omega), shiftL_parts L by_ A (j + 1) (by omega), List.set_append_right _ _ (by omega), hl, Nat.sub_self, thrL_succ, List.drop_eq_getElem_cons h, List.set_cons_zero, List.append_assoc, List.append_assoc, List.append_assoc]
  rfl
theorem dropB_zero (x : List Int) : dropB 0 x = x := by rw [dropB_drop]; simp
theorem shiftL_zero (L : List (List Int)) (by_ : Int) (A : Nat) (h : A ≤ L.length) : shiftL L by_ A 0 = L := by
  rw [shiftL_parts L by_ A 0 (by omega)]
  simp [thrL]
set_option maxHeartbeats 8000000 in
theorem rshift_ok (F : Nat → Prop) (a : Option Addr) (n c : Nat) (L : List (List Int)) (A B : Nat) (by_ : Int) (w : World) (h : RdL F w a n c L) (hs : sizeN (lens L) ≤ 65536) (h1 : -64 ≤ by_) (h2 : by_ ≤ 64) (hAB : A ≤ B) (hBn : B < n) :
    Calls Try.prog 27 #[.slice a n c, .int .i64 (A : Nat), .int .i64 (B : Nat), .int .i64 by_] w fun e w' => ∃ ra k rc, e = .returned (.tuple #[.slice ra k rc, .int .i64 (shiftR13 L (A : Int) (B : Int) by_).2]) ∧ RdL (fun z => w.heap.size ≤ z) w' ra k rc (shiftR13 L (A : Int) (B : Int) by_).1 ∧ Below w.heap.size w w' := by
  have hl := h.len
  have hcnt := size_count L
  have hR : shiftR13 L (A : Int) (B : Int) by_ = if 65536 < runesR (shiftL L by_ A (B + 1 - A)) then ([], 3) else (shiftL L by_ A (B + 1 - A), 0) := by
    unfold shiftR13
    rw [if_neg (by omega), if_neg (by omega), Int.toNat_natCast, Int.toNat_natCast]
  obtain ⟨⟨R0, R3⟩, hRe⟩ : ∃ R, shiftR13 L (A : Int) (B : Int) by_ = R := ⟨_, rfl⟩
  rw [hRe] at hR ⊢
  obtain ⟨M, hM⟩ : ∃ M, B + 1 - A = M := ⟨_, rfl⟩
  rw [hM] at hR
  have HRR := Lib.hid hR
  have hMb : M ≤ 65536 ∧ 1 ≤ M := by omega
  obtain ⟨hM6, hM1⟩ := hMb
  have hsz : sizeN (lens (shiftL L by_ A M)) ≤ 8388608 := by
    have e1 := shiftL_size L by_ A M (by omega)
    have e2 := gainI_bound L h1 h2 A M
    omega
  obtain ⟨b, hbe⟩ : ∃ b, w.heap.size = b := ⟨_, rfl⟩
  have HTW : Hid (∀ W, W = w → Calls Try.prog 12 #[.slice a n c] W fun e w' => ∃ g tc, e = .returned (.slice (some ⟨g, 0, none⟩) n tc) ∧ Hid (SdS w b g n tc (shiftL L by_ A 0) w')) := by
    rintro W rfl
    refine (rtwin_any F a n c L W h (by omega)).mono ?_
    rintro e w' ⟨ta, tc, rfl, hf, hb⟩
    have hh := hdt_my (hf.my (Nat.le_refl _)) (lines_wf (rdl_wf h))
    obtain ⟨vs, ho, hr⟩ := hh
    obtain ⟨g, rfl⟩ := own_some ho (by omega)
    rw [shiftL_zero L by_ A (by omega), ← hbe]
    exact ⟨g, tc, rfl, ⟨vs, ho, hr⟩, hb, hb.size⟩
  have HLX : Hid (∀ j, A + j ≤ B → (lnL L (A + j)).length ≤ 1048576) := by
    intro j hj
    have hx : L[A + j]? = some (lnL L (A + j)) := by rw [List.getElem?_eq_getElem (by omega)]; rw [lnL_of (List.getElem?_eq_getElem (by omega))]
    have hm : (lnL L (A + j)).length ∈ lens L := List.mem_map.2 ⟨_, List.mem_of_getElem? hx, rfl⟩
    have := sizeN_mem hm
    omega
  have HLL : Hid (L.length = n) := hl
  have HMM := Lib.hid hM
  have HBE := Lib.hid hbe
  have HSZ := Lib.hid hsz
  have HCL := Lib.hid (fun z W => rclass_any z false W)
  have hn1 : n ≤ 65536 := by omega
  have d1 : decide (by_ < -64) = false := decide_eq_false (by omega)
  have d2 : decide (64 < by_) = false := decide_eq_false (by omega)
  have d3 : decide (((A : Nat) : Int) < 0) = false := decide_eq_false (by omega)
  have d4 : decide (((B : Nat) : Int) < ((A : Nat) : Int)) = false := decide_eq_false (by omega)
  have d5 : decide ((n : Int) ≤ ((B : Nat) : Int)) = false := decide_eq_false (by omega)
  rw [hbe]
  clear h hs hl hcnt hR hRe hM hsz hbe
  go_enter Try.func27, Try.ntmps27
  go_upto_region 6 with (go_at_call 12; (refine (HTW.out _ rfl).mono ?_); rintro e w1 ⟨g, tc, rfl, H1⟩)
  go_wp2_with fail
  go_loopw [11] (fun v11 wr => ∃ j : Nat, v11 = .int .i64 ((A + j : Nat) : Int) ∧ j ≤ M ∧ Hid (SdS w b g n tc (shiftL L by_ A j) wr)) (fun v11 _ => B + 1 - (intOf v11).toNat)
  case atStart => exact ⟨0, rfl, Nat.zero_le _, H1⟩
  case round =>
    obtain ⟨j, rfl, hjM, hst⟩ := hrel
    clear H1
    obtain ⟨i, hi⟩ : ∃ i, A + j = i := ⟨_, rfl⟩
    rw [hi]
    have HI := Lib.hid hi
    by_cases hlt : i ≤ B
    · have hiB : (i : Int) ≤ (B : Int) := by omega
      have hin : i < n := by omega
      have hin' : (i : Int) < (n : Int) := by omega
      have hat := shiftL_at L by_ A j (by rw [HLL.out]; omega)
      have hset := shiftL_set L by_ A j (by rw [HLL.out]; omega)
      have hxl := HLX.out j (by omega)
      rw [hi] at hat hset hxl
      obtain ⟨C, hC⟩ : ∃ C, shiftL L by_ A j = C := ⟨_, rfl⟩
      rw [hC] at hst hat hset
      obtain ⟨x, hx⟩ : ∃ x, lnL L i = x := ⟨_, rfl⟩
      rw [hx] at hat hset hxl
      have HSET := Lib.hid hset
      have HAT := Lib.hid hat
      obtain ⟨xa, xc, hc1, hc2, hgl, hbg, hrx⟩ := hst.out.h.row hat
      have hj1 : j + 1 ≤ M := by have := HMM.out; omega
      have hcc : C.set i x = C := by
        have := List.getElem?_eq_some_iff.1 hat
        obtain ⟨q1, q2⟩ := this
        rw [← q2]
        exact List.set_getElem_self q1
      have HXL := Lib.hid hxl
      by_cases hp : 0 < by_ ∧ x ≠ []
      · obtain ⟨hp1, hp2⟩ := hp
        obtain ⟨q, hq⟩ : ∃ q : Nat, by_ = (q : Int) := ⟨by_.toNat, by omega⟩
        have hxs : shiftX by_ x = blanksR q ++ x := by
          unfold shiftX
          rw [if_pos hp1, if_neg hp2, hq, Int.toNat_natCast]
        subst hq
        have hq6 : q ≤ 64 := by omega
        have hp0 : 0 < x.length := Nat.pos_of_ne_zero (fun e => hp2 (List.eq_nil_of_length_eq_zero e))
        obtain ⟨y, hy⟩ : ∃ y, x.length = y := ⟨_, rfl⟩
        rw [hy] at hc1 hp0
        have hp0' : (0 : Int) < (y : Int) := by omega
        have HBL : Hid (∀ W2, (W2 = wr ∨ W2 = wr.drew) → Calls Try.prog 71 #[.int .i64 (q : Nat)] W2 fun e w9 => ∃ ba bc, e = .returned (.slice ba q bc) ∧ (w9.cell? ⟨g, i, none⟩ = some (.slice xa y xc) ∧ g < w9.heap.size) ∧ ∃ a9 c9 wA, Hid (∀ ty, (Builtin.append_ #[35, 35] ty #[.slice ba q bc, .slice xa y xc]).run Try.prog w9 = .ok (.slice a9 (q + y) c9) wA) ∧ (wA.cell? ⟨g, i, none⟩ = some (.slice xa y xc) ∧ wA.frozen? ⟨g, i, none⟩ = false ∧ g < wA.heap.size) ∧ Hid (SdS w b g n tc (C.set i (shiftX (q : Int) x)) (wA.setCell ⟨g, i, none⟩ (.slice a9 (q + y) c9)))) := by
          intro W2 hW2
          have hst2 : SdS w b g n tc C W2 := by
            rcases hW2 with rfl | rfl
            · exact hst.out
            · exact hst.out.below (Below.refl _ _).drew
          have hc2' : W2.cell? ⟨g, i, none⟩ = some (.slice xa y xc) := by rcases hW2 with rfl | rfl <;> exact hc1
          have hgl2 : g < W2.heap.size := by rcases hW2 with rfl | rfl <;> exact hgl
          have hrx2 : RdT b W2 xa x.length xc x := by
            rcases hW2 with rfl | rfl
            · exact hrx
            · exact hrx.below (Below.refl _ _).drew
          refine (rblanks_any (q : Int) W2 (by omega) (by omega)).mono ?_
          rintro e w9 ⟨ba, bc, rfl, ho, hb⟩
          rw [Int.toNat_natCast] at ho ⊢
          have hrx9 := hrx2.below hb
          rw [hy] at hrx9
          obtain ⟨a9, c9, wA, hrun, hoA, hbA⟩ := app_rd w9 W2.heap.size _ q _ xa y xc x ho hb.size hrx9.1 (by omega)
          have hbA2 : Below W2.heap.size W2 wA := hb.trans hbA
          have hsA := hst2.below hbA2
          have hlw := hst2.l
          obtain ⟨xa', xc', e1, e2, e3, e4, -⟩ := hsA.h.row HAT.out
          have hw := hrx.1.2.2.2.1
          have hnew : RdT b wA a9 (q + y) c9 (blanksR q ++ x) := RdT.own (own_mono hoA hlw) (by
            intro z hz
            rcases List.mem_append.1 hz with hz | hz
            · have : z = 32 := List.eq_of_mem_replicate hz
              subst this
              decide
            · exact hw z hz)
          have hP := hsA.put HAT.out hnew
          rw [← hxs] at hP
          exact ⟨ba, bc, rfl, ⟨(hb.cell (p := ⟨g, i, none⟩) hgl2).trans hc2', by have := hb.size; omega⟩, a9, c9, wA, hrun, ⟨(hbA2.cell (p := ⟨g, i, none⟩) hgl2).trans hc2', e2, e3⟩, hP⟩
        have HXS : Hid (shiftX (q : Int) x = dropB (-(q : Int)).toNat (shiftX (q : Int) x) ∧ (shiftX (q : Int) x).length ≤ 2097152) := by
          have : (-(q : Int)).toNat = 0 := by omega
          rw [this]
          refine ⟨(dropB_zero _).symm, ?_⟩
          rw [hxs, List.length_append]
          have hbl : (blanksR q).length = q := by simp [blanksR]
          have := HXL.out
          omega
        have dq : decide ((0 : Int) < (q : Int)) = true := decide_eq_true hp1
        have dy : decide ((0 : Int) < (y : Int)) = true := decide_eq_true hp0'
        clear hst hat hset hx hC hcc hrx hxl hy hxs
        go_upto_region 10 with fail
        go_cut [12] (fun v12 W => Hid (SdS w b g n tc (C.set i (shiftX (q : Int) x)) W))
        case first =>
          go_region_law (first
            | (go_simp; go_at_call 71; (first | refine (HBL.out _ (Or.inl rfl)).mono ?_ | refine (HBL.out _ (Or.inr rfl)).mono ?_); rintro e w9 ⟨ba, bc, rfl, ⟨z0, z1⟩, a9, c9, wA, HRUN9, ⟨y0, y1, y2⟩, HN⟩)
            | (refine step_append_run rfl (.tmp 53) (.tmp 57) _ _ rfl _ _ (by simp [Act.eval, Act.put]) (by simp [Act.eval, Act.put]) (HRUN9.out _) ?_))
          all_goals
            go_wp2_with fail
            go_meet
            exact HN
        case rest =>
          have HST0 := hcut
          clear hc1 hc2 hgl HBL
          obtain ⟨w5, hw5⟩ : ∃ w5, w5 = wc := ⟨_, rfl⟩
          subst hw5
          go_wp2_with fail
          go_loopw [12] (fun v12 wq => ∃ (K : Int) (Y : List Int), v12 = .int .i64 K ∧ -64 ≤ K ∧ K ≤ 64 ∧ Hid (SdS w b g n tc (C.set i Y) wq ∧ shiftX (q : Int) x = dropB (-K).toNat Y ∧ Y.length ≤ 2097152)) (fun v12 _ => (-(intOf v12)).toNat)
          case atStart => exact ⟨(q : Int), shiftX (q : Int) x, rfl, by omega, by omega, HST0.out, HXS.out.1, HXS.out.2⟩
          case round =>
            obtain ⟨K, Y, rfl, hK1, hK2, hin2⟩ := hrel
            obtain ⟨hin3, hsx, hyl⟩ := hin2.out
            clear hin2 HST0 HXS
            have hiC : i < C.length := (List.getElem?_eq_some_iff.1 HAT.out).1
            have hatY : (C.set i Y)[i]? = some Y := by rw [List.getElem?_set_self hiC]
            obtain ⟨ya, yc, k1, k2, k3, -, hry⟩ := hin3.h.row hatY
            by_cases hneg : K < 0
            · have dK : decide (K < 0) = true := decide_eq_true hneg
              obtain ⟨m, hm⟩ : ∃ m, (-K).toNat = m + 1 := ⟨(-K).toNat - 1, by omega⟩
              rw [hm] at hsx
              rcases Y with _ | ⟨z, Y⟩
              · have HEND : Hid (SdS w b g n tc (shiftL L (q : Int) A (j + 1)) wr) := by
                  rw [HSET.out, hsx]
                  exact hin3
                rw [List.length_nil] at k1
                clear hin3 hsx hatY hry hm
                go_wp2_with fail
                go_roundw
                case rel => exact ⟨j + 1, by have := HI.out; first | go_num | (congr 2; omega) | (congr 1; omega), hj1, HEND⟩
                case measure => simp [intOf]; omega
              · rw [List.length_cons] at k1 hyl
                obtain ⟨k, hk⟩ : ∃ k, Y.length = k := ⟨_, rfl⟩
                have hry' := hry
                rw [List.length_cons] at hry'
                rw [hk] at k1 hyl hry'
                obtain ⟨yb, yo, rfl, hyb, hyc⟩ := hry'.1.all_ (by omega)
                have hz0 := hyc 0 (by omega)
                simp only [List.getD_cons_zero, Nat.add_zero] at hz0
                have hycap : k + 1 ≤ yc ∧ yc ≤ 9223372036854775807 := ⟨hry'.1.2.1, by have := hry'.1.2.2.1; unfold maxLen at this; omega⟩
                obtain ⟨hyc1, hyc2⟩ := hycap
                have hkp : (0 : Int) < ((k + 1 : Nat) : Int) := by omega
                have dk : decide ((0 : Int) < ((k + 1 : Nat) : Int)) = true := decide_eq_true hkp
                have dk' : decide ((0 : Int) < ((k : Nat) : Int) + 1) = true := decide_eq_true (by omega)
                obtain ⟨cz, hcz⟩ : ∃ cz, cls false z = cz := ⟨_, rfl⟩
                have HCZ : Hid (∀ W, Calls Try.prog 72 #[.int .i32 z, .bool false] W fun e w' => e = .returned (.int .i64 cz) ∧ W = w') := by rw [← hcz]; exact HCL.out z
                by_cases hc : cz = 0
                · subst hc
                  have hbz : blankR z = true := by unfold blankR; rw [hcz]; rfl
                  have hdb : dropB (m + 1) (z :: Y) = dropB m Y := by
                    show (if blankR z then dropB m Y else z :: Y) = _
                    rw [hbz]; rfl
                  rw [hdb] at hsx
                  have hdr := hry'.drop 1 (by omega)
                  simp only [List.drop_succ_cons, List.drop_zero, Nat.add_sub_cancel] at hdr
                  have hP := hin3.put hatY hdr
                  rw [List.set_set] at hP
                  have hm' : (-(K + 1)).toNat = m := by omega
                  by_cases hy1 : yc = 1
                  · subst hy1
                    obtain rfl : k = 0 := by omega
                    rw [if_pos rfl] at hP
                    have HN : Hid (SdS w b g n tc (C.set i Y) (wr.setCell ⟨g, i, none⟩ (.slice (some ⟨yb, yo, none⟩) 0 0)) ∧ shiftX (q : Int) x = dropB (-(K + 1)).toNat Y ∧ Y.length ≤ 2097152) := ⟨hP, by rw [hm']; exact hsx, by omega⟩
                    clear hdr hry hry' hyc hk hcz hin3 hP hsx hm hm' hatY hdb
                    go_wp2_with (go_at_call 72; (with_reducible refine (HCZ.out _).mono ?_); rintro e wq2 ⟨rfl, hwq⟩; subst hwq)
                    go_roundw
                    case rel => exact ⟨K + 1, Y, rfl, by omega, by omega, HN⟩
                    case measure => simp [intOf]; omega
                  · rw [if_neg hy1] at hP
                    simp only [Option.map_some, Nat.mul_one, add_lit] at hP
                    have HN : Hid (SdS w b g n tc (C.set i Y) (wr.setCell ⟨g, i, none⟩ (.slice (some ⟨yb, yo + 1, none⟩) k (yc - 1))) ∧ shiftX (q : Int) x = dropB (-(K + 1)).toNat Y ∧ Y.length ≤ 2097152) := ⟨hP, by rw [hm']; exact hsx, by omega⟩
                    clear hdr hry hry' hyc hk hcz hin3 hP hsx hm hm' hatY hdb
                    go_wp2_with (go_at_call 72; (with_reducible refine (HCZ.out _).mono ?_); rintro e wq2 ⟨rfl, hwq⟩; subst hwq)
                    go_roundw
                    case rel => exact ⟨K + 1, Y, rfl, by omega, by omega, HN⟩
                    case measure => simp [intOf]; omega
                · have hbz : blankR z = false := by unfold blankR; rw [hcz]; simpa using hc
                  have hdb : dropB (m + 1) (z :: Y) = z :: Y := by
                    show (if blankR z then dropB m Y else z :: Y) = _
                    rw [hbz]; rfl
                  rw [hdb] at hsx
                  have hc' : (cz == 0) = false := by simpa using hc
                  have HEND : Hid (SdS w b g n tc (shiftL L (q : Int) A (j + 1)) wr) := by
                    rw [HSET.out, hsx]
                    exact hin3
                  clear hry hry' hyc hk hcz hin3 hsx hm hatY hdb
                  go_wp2_with (go_at_call 72; (with_reducible refine (HCZ.out _).mono ?_); rintro e wq2 ⟨rfl, hwq⟩; subst hwq)
                  go_roundw
                  case rel => exact ⟨j + 1, by have := HI.out; first | go_num | (congr 2; omega) | (congr 1; omega), hj1, HEND⟩
                  case measure => simp [intOf]; omega
            · have dK : decide (K < 0) = false := decide_eq_false hneg
              have hm : (-K).toNat = 0 := by omega
              rw [hm, dropB_zero] at hsx
              have HEND : Hid (SdS w b g n tc (shiftL L (q : Int) A (j + 1)) wr) := by
                rw [HSET.out, hsx]
                exact hin3
              clear hin3 hsx hatY hry hm
              go_wp2_with fail
              go_roundw
              case rel => exact ⟨j + 1, by have := HI.out; first | go_num | (congr 2; omega) | (congr 1; omega), hj1, HEND⟩
              case measure => simp [intOf]; omega
      · have HXS : Hid (shiftX by_ x = dropB (-by_).toNat x ∧ x.length ≤ 2097152) := by
          refine ⟨?_, by omega⟩
          unfold shiftX
          by_cases h0 : 0 < by_
          · have hx0 : x = [] := Classical.byContradiction fun h => hp ⟨h0, h⟩
            subst hx0
            rw [if_pos h0, if_pos rfl]
            have : (-by_).toNat = 0 := by omega
            rw [this]
            rfl
          · rw [if_neg h0]
        have HST0 : Hid (SdS w b g n tc (C.set i x) wr) := by rw [hcc]; exact hst
        have hxy : x = [] → x.length = 0 := fun e => by rw [e]; rfl
        obtain ⟨y, hy⟩ : ∃ y, x.length = y := ⟨_, rfl⟩
        rw [hy] at hc1 hxy
        have hcase : (decide (0 < by_) = false) ∨ (decide (0 < by_) = true ∧ y = 0) := by
          by_cases h0 : 0 < by_
          · right
            exact ⟨decide_eq_true h0, hxy (Classical.byContradiction fun h => hp ⟨h0, h⟩)⟩
          · left
            exact decide_eq_false h0
        clear hst hat hset hx hC hcc hrx hxl hy hxy hp
        rcases hcase with dq | ⟨dq, rfl⟩
        · obtain ⟨w5, hw5⟩ : ∃ w5, w5 = wr := ⟨_, rfl⟩
          subst hw5
          go_wp2_with fail
          go_loopw [12] (fun v12 wq => ∃ (K : Int) (Y : List Int), v12 = .int .i64 K ∧ -64 ≤ K ∧ K ≤ 64 ∧ Hid (SdS w b g n tc (C.set i Y) wq ∧ shiftX by_ x = dropB (-K).toNat Y ∧ Y.length ≤ 2097152)) (fun v12 _ => (-(intOf v12)).toNat)
          case atStart => exact ⟨by_, x, rfl, by omega, by omega, HST0.out, HXS.out.1, HXS.out.2⟩
          case round =>
            obtain ⟨K, Y, rfl, hK1, hK2, hin2⟩ := hrel
            obtain ⟨hin3, hsx, hyl⟩ := hin2.out
            clear hin2 HST0 HXS
            have hiC : i < C.length := (List.getElem?_eq_some_iff.1 HAT.out).1
            have hatY : (C.set i Y)[i]? = some Y := by rw [List.getElem?_set_self hiC]
            obtain ⟨ya, yc, k1, k2, k3, -, hry⟩ := hin3.h.row hatY
            by_cases hneg : K < 0
            · have dK : decide (K < 0) = true := decide_eq_true hneg
              obtain ⟨m, hm⟩ : ∃ m, (-K).toNat = m + 1 := ⟨(-K).toNat - 1, by omega⟩
              rw [hm] at hsx
              rcases Y with _ | ⟨z, Y⟩
              · have HEND : Hid (SdS w b g n tc (shiftL L by_ A (j + 1)) wr) := by
                  rw [HSET.out, hsx]
                  exact hin3
                rw [List.length_nil] at k1
                clear hin3 hsx hatY hry hm
                go_wp2_with fail
                go_roundw
                case rel => exact ⟨j + 1, by have := HI.out; first | go_num | (congr 2; omega) | (congr 1; omega), hj1, HEND⟩
                case measure => simp [intOf]; omega
              · rw [List.length_cons] at k1 hyl
                obtain ⟨k, hk⟩ : ∃ k, Y.length = k := ⟨_, rfl⟩
                have hry' := hry
                rw [List.length_cons] at hry'
                rw [hk] at k1 hyl hry'
                obtain ⟨yb, yo, rfl, hyb, hyc⟩ := hry'.1.all_ (by omega)
                have hz0 := hyc 0 (by omega)
                simp only [List.getD_cons_zero, Nat.add_zero] at hz0
                have hycap : k + 1 ≤ yc ∧ yc ≤ 9223372036854775807 := ⟨hry'.1.2.1, by have := hry'.1.2.2.1; unfold maxLen at this; omega⟩
                obtain ⟨hyc1, hyc2⟩ := hycap
                have hkp : (0 : Int) < ((k + 1 : Nat) : Int) := by omega
                have dk : decide ((0 : Int) < ((k + 1 : Nat) : Int)) = true := decide_eq_true hkp
                have dk' : decide ((0 : Int) < ((k : Nat) : Int) + 1) = true := decide_eq_true (by omega)
                obtain ⟨cz, hcz⟩ : ∃ cz, cls false z = cz := ⟨_, rfl⟩
                have HCZ : Hid (∀ W, Calls Try.prog 72 #[.int .i32 z, .bool false] W fun e w' => e = .returned (.int .i64 cz) ∧ W = w') := by rw [← hcz]; exact HCL.out z
                by_cases hc : cz = 0
                · subst hc
                  have hbz : blankR z = true := by unfold blankR; rw [hcz]; rfl
                  have hdb : dropB (m + 1) (z :: Y) = dropB m Y := by
                    show (if blankR z then dropB m Y else z :: Y) = _
                    rw [hbz]; rfl
                  rw [hdb] at hsx
                  have hdr := hry'.drop 1 (by omega)
                  simp only [List.drop_succ_cons, List.drop_zero, Nat.add_sub_cancel] at hdr
                  have hP := hin3.put hatY hdr
                  rw [List.set_set] at hP
                  have hm' : (-(K + 1)).toNat = m := by omega
                  by_cases hy1 : yc = 1
                  · subst hy1
                    obtain rfl : k = 0 := by omega
                    rw [if_pos rfl] at hP
                    have HN : Hid (SdS w b g n tc (C.set i Y) (wr.setCell ⟨g, i, none⟩ (.slice (some ⟨yb, yo, none⟩) 0 0)) ∧ shiftX by_ x = dropB (-(K + 1)).toNat Y ∧ Y.length ≤ 2097152) := ⟨hP, by rw [hm']; exact hsx, by omega⟩
                    clear hdr hry hry' hyc hk hcz hin3 hP hsx hm hm' hatY hdb
                    go_wp2_with (go_at_call 72; (with_reducible refine (HCZ.out _).mono ?_); rintro e wq2 ⟨rfl, hwq⟩; subst hwq)
                    go_roundw
                    case rel => exact ⟨K + 1, Y, rfl, by omega, by omega, HN⟩
                    case measure => simp [intOf]; omega
                  · rw [if_neg hy1] at hP
                    simp only [Option.map_some, Nat.mul_one, add_lit] at hP
                    have HN : Hid (SdS w b g n tc (C.set i Y) (wr.setCell ⟨g, i, none⟩ (.slice (some ⟨yb, yo + 1, none⟩) k (yc - 1))) ∧ shiftX by_ x = dropB (-(K + 1)).toNat Y ∧ Y.length ≤ 2097152) := ⟨hP, by rw [hm']; exact hsx, by omega⟩
                    clear hdr hry hry' hyc hk hcz hin3 hP hsx hm hm' hatY hdb
                    go_wp2_with (go_at_call 72; (with_reducible refine (HCZ.out _).mono ?_); rintro e wq2 ⟨rfl, hwq⟩; subst hwq)
                    go_roundw
                    case rel => exact ⟨K + 1, Y, rfl, by omega, by omega, HN⟩
                    case measure => simp [intOf]; omega
                · have hbz : blankR z = false := by unfold blankR; rw [hcz]; simpa using hc
                  have hdb : dropB (m + 1) (z :: Y) = z :: Y := by
                    show (if blankR z then dropB m Y else z :: Y) = _
                    rw [hbz]; rfl
                  rw [hdb] at hsx
                  have hc' : (cz == 0) = false := by simpa using hc
                  have HEND : Hid (SdS w b g n tc (shiftL L by_ A (j + 1)) wr) := by
                    rw [HSET.out, hsx]
                    exact hin3
                  clear hry hry' hyc hk hcz hin3 hsx hm hatY hdb
                  go_wp2_with (go_at_call 72; (with_reducible refine (HCZ.out _).mono ?_); rintro e wq2 ⟨rfl, hwq⟩; subst hwq)
                  go_roundw
                  case rel => exact ⟨j + 1, by have := HI.out; first | go_num | (congr 2; omega) | (congr 1; omega), hj1, HEND⟩
                  case measure => simp [intOf]; omega
            · have dK : decide (K < 0) = false := decide_eq_false hneg
              have hm : (-K).toNat = 0 := by omega
              rw [hm, dropB_zero] at hsx
              have HEND : Hid (SdS w b g n tc (shiftL L by_ A (j + 1)) wr) := by
                rw [HSET.out, hsx]
                exact hin3
              clear hin3 hsx hatY hry hm
              go_wp2_with fail
              go_roundw
              case rel => exact ⟨j + 1, by have := HI.out; first | go_num | (congr 2; omega) | (congr 1; omega), hj1, HEND⟩
              case measure => simp [intOf]; omega
        · obtain ⟨w5, hw5⟩ : ∃ w5, w5 = wr := ⟨_, rfl⟩
          subst hw5
          go_wp2_with fail
          go_loopw [12] (fun v12 wq => ∃ (K : Int) (Y : List Int), v12 = .int .i64 K ∧ -64 ≤ K ∧ K ≤ 64 ∧ Hid (SdS w b g n tc (C.set i Y) wq ∧ shiftX by_ x = dropB (-K).toNat Y ∧ Y.length ≤ 2097152)) (fun v12 _ => (-(intOf v12)).toNat)
          case atStart => exact ⟨by_, x, rfl, by omega, by omega, HST0.out, HXS.out.1, HXS.out.2⟩
          case round =>
            obtain ⟨K, Y, rfl, hK1, hK2, hin2⟩ := hrel
            obtain ⟨hin3, hsx, hyl⟩ := hin2.out
            clear hin2 HST0 HXS
            have hiC : i < C.length := (List.getElem?_eq_some_iff.1 HAT.out).1
            have hatY : (C.set i Y)[i]? = some Y := by rw [List.getElem?_set_self hiC]
            obtain ⟨ya, yc, k1, k2, k3, -, hry⟩ := hin3.h.row hatY
            by_cases hneg : K < 0
            · have dK : decide (K < 0) = true := decide_eq_true hneg
              obtain ⟨m, hm⟩ : ∃ m, (-K).toNat = m + 1 := ⟨(-K).toNat - 1, by omega⟩
              rw [hm] at hsx
              rcases Y with _ | ⟨z, Y⟩
              · have HEND : Hid (SdS w b g n tc (shiftL L by_ A (j + 1)) wr) := by
                  rw [HSET.out, hsx]
                  exact hin3
                rw [List.length_nil] at k1
                clear hin3 hsx hatY hry hm
                go_wp2_with fail
                go_roundw
                case rel => exact ⟨j + 1, by have := HI.out; first | go_num | (congr 2; omega) | (congr 1; omega), hj1, HEND⟩
                case measure => simp [intOf]; omega
              · rw [List.length_cons] at k1 hyl
                obtain ⟨k, hk⟩ : ∃ k, Y.length = k := ⟨_, rfl⟩
                have hry' := hry
                rw [List.length_cons] at hry'
                rw [hk] at k1 hyl hry'
                obtain ⟨yb, yo, rfl, hyb, hyc⟩ := hry'.1.all_ (by omega)
                have hz0 := hyc 0 (by omega)
                simp only [List.getD_cons_zero, Nat.add_zero] at hz0
                have hycap : k + 1 ≤ yc ∧ yc ≤ 9223372036854775807 := ⟨hry'.1.2.1, by have := hry'.1.2.2.1; unfold maxLen at this; omega⟩
                obtain ⟨hyc1, hyc2⟩ := hycap
                have hkp : (0 : Int) < ((k + 1 : Nat) : Int) := by omega
                have dk : decide ((0 : Int) < ((k + 1 : Nat) : Int)) = true := decide_eq_true hkp
                have dk' : decide ((0 : Int) < ((k : Nat) : Int) + 1) = true := decide_eq_true (by omega)
                obtain ⟨cz, hcz⟩ : ∃ cz, cls false z = cz := ⟨_, rfl⟩
                have HCZ : Hid (∀ W, Calls Try.prog 72 #[.int .i32 z, .bool false] W fun e w' => e = .returned (.int .i64 cz) ∧ W = w') := by rw [← hcz]; exact HCL.out z
                by_cases hc : cz = 0
                · subst hc
                  have hbz : blankR z = true := by unfold blankR; rw [hcz]; rfl
                  have hdb : dropB (m + 1) (z :: Y) = dropB m Y := by
                    show (if blankR z then dropB m Y else z :: Y) = _
                    rw [hbz]; rfl
                  rw [hdb] at hsx
                  have hdr := hry'.drop 1 (by omega)
                  simp only [List.drop_succ_cons, List.drop_zero, Nat.add_sub_cancel] at hdr
                  have hP := hin3.put hatY hdr
                  rw [List.set_set] at hP
                  have hm' : (-(K + 1)).toNat = m := by omega
                  by_cases hy1 : yc = 1
                  · subst hy1
                    obtain rfl : k = 0 := by omega
                    rw [if_pos rfl] at hP
                    have HN : Hid (SdS w b g n tc (C.set i Y) (wr.setCell ⟨g, i, none⟩ (.slice (some ⟨yb, yo, none⟩) 0 0)) ∧ shiftX by_ x = dropB (-(K + 1)).toNat Y ∧ Y.length ≤ 2097152) := ⟨hP, by rw [hm']; exact hsx, by omega⟩
                    clear hdr hry hry' hyc hk hcz hin3 hP hsx hm hm' hatY hdb
                    go_wp2_with (go_at_call 72; (with_reducible refine (HCZ.out _).mono ?_); rintro e wq2 ⟨rfl, hwq⟩; subst hwq)
                    go_roundw
                    case rel => exact ⟨K + 1, Y, rfl, by omega, by omega, HN⟩
                    case measure => simp [intOf]; omega
                  · rw [if_neg hy1] at hP
                    simp only [Option.map_some, Nat.mul_one, add_lit] at hP
                    have HN : Hid (SdS w b g n tc (C.set i Y) (wr.setCell ⟨g, i, none⟩ (.slice (some ⟨yb, yo + 1, none⟩) k (yc - 1))) ∧ shiftX by_ x = dropB (-(K + 1)).toNat Y ∧ Y.length ≤ 2097152) := ⟨hP, by rw [hm']; exact hsx, by omega⟩
                    clear hdr hry hry' hyc hk hcz hin3 hP hsx hm hm' hatY hdb
                    go_wp2_with (go_at_call 72; (with_reducible refine (HCZ.out _).mono ?_); rintro e wq2 ⟨rfl, hwq⟩; subst hwq)
                    go_roundw
                    case rel => exact ⟨K + 1, Y, rfl, by omega, by omega, HN⟩
                    case measure => simp [intOf]; omega
                · have hbz : blankR z = false := by unfold blankR; rw [hcz]; simpa using hc
                  have hdb : dropB (m + 1) (z :: Y) = z :: Y := by
                    show (if blankR z then dropB m Y else z :: Y) = _
                    rw [hbz]; rfl
                  rw [hdb] at hsx
                  have hc' : (cz == 0) = false := by simpa using hc
                  have HEND : Hid (SdS w b g n tc (shiftL L by_ A (j + 1)) wr) := by
                    rw [HSET.out, hsx]
                    exact hin3
                  clear hry hry' hyc hk hcz hin3 hsx hm hatY hdb
                  go_wp2_with (go_at_call 72; (with_reducible refine (HCZ.out _).mono ?_); rintro e wq2 ⟨rfl, hwq⟩; subst hwq)
                  go_roundw
                  case rel => exact ⟨j + 1, by have := HI.out; first | go_num | (congr 2; omega) | (congr 1; omega), hj1, HEND⟩
                  case measure => simp [intOf]; omega
            · have dK : decide (K < 0) = false := decide_eq_false hneg
              have hm : (-K).toNat = 0 := by omega
              rw [hm, dropB_zero] at hsx
              have HEND : Hid (SdS w b g n tc (shiftL L by_ A (j + 1)) wr) := by
                rw [HSET.out, hsx]
                exact hin3
              clear hin3 hsx hatY hry hm
              go_wp2_with fail
              go_roundw
              case rel => exact ⟨j + 1, by have := HI.out; first | go_num | (congr 2; omega) | (congr 1; omega), hj1, HEND⟩
              case measure => simp [intOf]; omega
    · have hgt : ¬ (i : Int) ≤ (B : Int) := by omega
      obtain rfl : j = M := by have := HMM.out; omega
      obtain ⟨Rl, hRl⟩ : ∃ Rl, shiftL L by_ A j = Rl := ⟨_, rfl⟩
      have hsz2 := HSZ.out
      have HREM := Lib.hid hRl
      rw [hRl] at hst hsz2
      have HRN : Hid (∀ W, W = wr → Calls Try.prog 51 #[.slice (some ⟨g, 0, none⟩) n tc] W fun e w' => e = .returned (.int .i64 (runesR Rl : Nat)) ∧ W = w') := by
        rintro W rfl
        exact rrunes_any _ _ n tc Rl W hst.out.h.rdl (by omega)
      have HF : Hid (RdL (fun z => b ≤ z) wr (some ⟨g, 0, none⟩) n tc Rl ∧ Below b w wr) := ⟨hst.out.h.rdl, hst.out.hb⟩
      obtain ⟨S, hS⟩ : ∃ S, runesR Rl = S := ⟨_, rfl⟩
      have HSS := Lib.hid hS
      rw [hS] at HRN
      clear hst hS hRl hsz2
      by_cases hroom : 65536 < S
      · have dz : decide ((65536 : Int) < (S : Int)) = true := decide_eq_true (by omega)
        have hRR := HRR.out
        rw [HREM.out, HSS.out, if_pos hroom] at hRR
        cases hRR
        go_wp2_with (go_at_call 51; (refine (HRN.out _ rfl).mono ?_); rintro e wq ⟨rfl, hwq⟩; subst hwq)
        refine bodyPost_ret (v := .tuple #[.slice none 0 0, .int .i64 3]) (by rw [results_tmp2 rfl]; rfl) rfl ?_
        exact ⟨none, 0, 0, rfl, RdL.none0 _ _, HF.out.2⟩
      · have dz : decide ((65536 : Int) < (S : Int)) = false := decide_eq_false (by omega)
        have hRR := HRR.out
        rw [HREM.out, HSS.out, if_neg hroom] at hRR
        cases hRR
        go_wp2_with (go_at_call 51; (refine (HRN.out _ rfl).mono ?_); rintro e wq ⟨rfl, hwq⟩; subst hwq)
        refine bodyPost_ret (v := .tuple #[.slice (some ⟨g, 0, none⟩) n tc, .int .i64 0]) (by rw [results_tmp2 rfl]; rfl) rfl ?_
        exact ⟨_, _, _, rfl, HF.out.1, HF.out.2⟩
theorem rshiftK : ShiftK 27 := by
  intro F a n c L x y by_ w h hs hx hy hz
  have hl := h.len
  have hcnt := size_count L
  by_cases h1 : by_ < -64 ∨ 64 < by_
  · rw [shiftR_small h1]
    refine (rshift_arg _ x y by_ w hz h1).mono ?_
    rintro e w' ⟨rfl, h2⟩
    exact ⟨none, 0, 0, rfl, RdL.none0 _ _, by first | exact h2 | (subst h2; exact Below.refl _ _)⟩
  by_cases h2 : x < 0 ∨ y < x ∨ (n : Int) ≤ y
  · have ht : shiftR13 L x y by_ = ([], 2) := by
      unfold shiftR13
      rw [if_neg h1, if_pos (by rw [hl]; omega)]
    rw [ht]
    refine (rshift_range a n c x y by_ w hx hy (by omega) (by omega) (by omega) h2).mono ?_
    rintro e w' ⟨rfl, h2⟩
    exact ⟨none, 0, 0, rfl, RdL.none0 _ _, by first | exact h2 | (subst h2; exact Below.refl _ _)⟩
  obtain ⟨A, rfl⟩ : ∃ A : Nat, x = (A : Int) := ⟨x.toNat, by omega⟩
  obtain ⟨B, rfl⟩ : ∃ B : Nat, y = (B : Int) := ⟨y.toNat, by omega⟩
  exact rshift_ok F a n c L A B by_ w h hs (by omega) (by omega) (by omega) (by omega)
end Go.Proofs.Ytfldjoiohejilaa.U
