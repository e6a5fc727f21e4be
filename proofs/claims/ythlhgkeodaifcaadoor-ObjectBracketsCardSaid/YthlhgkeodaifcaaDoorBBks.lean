/-
  The walk of ObjectBrackets, over the program's Find (FindC: a premise). (MADE by wip/tools/gen_bbks.py.)
-/
import Derived.Test.YthlhgkeodaifcaaDoorBFind
import Derived.Test.YthlhgkeodaifcaaDoorBBtw
import Derived.Test.YthlhgkeodaifcaaDoorBHand
import Derived.BigQuiet
namespace Go.Proofs.YthlhgkeodaifcaaDoor.U
open Go.RowKit
set_option linter.unusedVariables false
set_option linter.unusedSimpArgs false
set_option maxRecDepth 100000

theorem okP_i64 {L : List (List Int)} {p1 p2 : Nat} (hz : sizeN (lens L) ≤ 262144) (h : okP L (p1, p2)) : i64p ⟨(p1 : Nat), (p2 : Nat)⟩ := by
  obtain ⟨h1, h2⟩ := h
  simp only at h1 h2
  have h3 := size_count L
  have h4 : (lnL L p1).length ≤ sizeN (lens L) := by
    unfold lnL
    rw [List.getD_eq_getElem?_getD, List.getElem?_eq_getElem h1]
    refine sizeN_mem ?_
    unfold lens
    exact List.mem_map.2 ⟨_, List.getElem_mem h1, rfl⟩
  exact ⟨⟨by show _ ≤ (p1 : Int); omega, by show (p1 : Int) ≤ _; omega⟩, by show _ ≤ (p2 : Int); omega, by show (p2 : Int) ≤ _; omega⟩
/-- the boxes of the place, of both ends -/
def BkS (W : World) (S : Nat) (c1 c2 a1 a2 b1 b2 : Nat) (V : World) : Prop := Below W.heap.size W V ∧ V.heap[W.heap.size]? = some (.cells #[.int .i64 (c1 : Nat), .int .i64 (c2 : Nat)] 24 (0, 0)) ∧ V.heap[S]? = some (.cells #[.int .i64 (a1 : Nat), .int .i64 (a2 : Nat)] 24 (0, 0)) ∧ V.heap[S + 1]? = some (.cells #[.int .i64 (b1 : Nat), .int .i64 (b2 : Nat)] 24 (0, 0))
theorem BkS.below {W V V2 : World} {S c1 c2 a1 a2 b1 b2 : Nat} (h : BkS W S c1 c2 a1 a2 b1 b2 V) (hb : Below V.heap.size V V2) : BkS W S c1 c2 a1 a2 b1 b2 V2 := by
  obtain ⟨h1, h2, h3, h4⟩ := h
  exact ⟨btr h1 hb, (hb.block _ (Array.getElem?_eq_some_iff.1 h2).1).trans h2, (hb.block _ (Array.getElem?_eq_some_iff.1 h3).1).trans h3, (hb.block _ (Array.getElem?_eq_some_iff.1 h4).1).trans h4⟩
set_option maxHeartbeats 8000000 in
theorem objectBrackets_wideM (HM : FindC 9) (a : Option Addr) (n c : Nat) (L : List (List Int)) (q : Po) (key : Int) (W : World) (h : RdL (fun k => k < W.heap.size) W a n c L) (hq : i64p q) (hkb : i32b key) (hw : WideL L) (hg : Gl W) :
    Calls Tryd.prog 6 #[.slice a n c, q.v, .int .i32 key] W fun e w' => e = .returned (.bool true) ∧ Below W.heap.size W w' := by
  obtain ⟨u, v⟩ := q
  show Calls Tryd.prog _ #[.slice a n c, .agg #[.int .i64 u, .int .i64 v], .int .i32 key] W _
  have hl := h.len
  have hsm0 := h.small
  obtain ⟨w1, hw1, hsz1, g1, hb1⟩ := lone W (.cells #[.int .i64 u, .int .i64 v] 24)
  have h1 := h.below hb1
  have HSM : Hid (Calls Tryd.prog 8 #[.slice a n c] w1 fun e w' => e = .returned (.bool (smallO L)) ∧ Below w1.heap.size w1 w') := smallO_any _ a n c L w1 h1 hw
  have HAW : Hid (∀ w' : World, Below W.heap.size W w' → Calls Tryd.prog 11 #[] w' fun e w2 => e = .returned (.bool true) ∧ Below w'.heap.size w' w2) := fun w' hb => awake_any HM w' (hg.up hb)
  have HGW := Lib.hid hg
  have HBK := Lib.hid (fun W' => rbrk_any key W')
  unfold brV at HBK
  clear hg
  obtain ⟨x0, x1, xf0, xf1⟩ := row2 g1
  have HW1 := Lib.hid hw1
  have HB1 := Lib.hid hb1
  have G1 := Lib.hid g1
  obtain ⟨sm, hsm⟩ : ∃ sm, smallO L = sm := ⟨_, rfl⟩
  rw [hsm] at HSM
  cases hbk : brk key with
  | none =>
    simp only [hbk] at HBK
    clear h h1 hw1 hb1 g1 hsm hl hbk
    cases sm with
    | false =>
      go_enter Tryd.func6, Tryd.ntmps6
      go_upto_region 1 with fail
      rw [HW1.out]
      go_wp2_with (first
        | (go_at_call 15; refine (HBK.out _).mono ?_; rintro e w5 ⟨rfl, hw5⟩; subst hw5)
        | (go_at_call 8; refine HSM.out.mono ?_; rintro e w2 ⟨rfl, hb2⟩)
        | (go_at_call 11; refine (HAW.out _ (btr HB1.out hb2)).mono ?_; rintro e w9 ⟨rfl, hb9⟩))
      go_ret
      exact ⟨rfl, btr HB1.out (btr hb2 hb9)⟩
    | true =>
      go_enter Tryd.func6, Tryd.ntmps6
      go_upto_region 1 with fail
      rw [HW1.out]
      go_wp2_with (first
        | (go_at_call 15; refine (HBK.out _).mono ?_; rintro e w5 ⟨rfl, hw5⟩; subst hw5)
        | (go_at_call 8; refine HSM.out.mono ?_; rintro e w2 ⟨rfl, hb2⟩)
        | (go_at_call 11; refine (HAW.out _ (btr HB1.out hb2)).mono ?_; rintro e w9 ⟨rfl, hb9⟩))
      go_ret
      exact ⟨rfl, btr HB1.out (btr hb2 hb9)⟩
  | some oc =>
    obtain ⟨o1, o2⟩ := oc
    simp only [hbk] at HBK
    obtain ⟨hz0, hoo⟩ := brk_pos hbk
    have z0 : (o1 == 0) = false := by simp [hz0]
    cases sm with
    | false =>
      clear h h1 hw1 hb1 g1 hsm hl hbk hz0 hoo
      go_enter Tryd.func6, Tryd.ntmps6
      go_upto_region 1 with fail
      rw [HW1.out]
      go_wp2_with (first
        | (go_at_call 15; refine (HBK.out _).mono ?_; rintro e w5 ⟨rfl, hw5⟩; subst hw5)
        | (go_at_call 8; refine HSM.out.mono ?_; rintro e w2 ⟨rfl, hb2⟩)
        | (go_at_call 11; refine (HAW.out _ (btr HB1.out hb2)).mono ?_; rintro e w9 ⟨rfl, hb9⟩))
      go_ret
      exact ⟨rfl, btr HB1.out (btr hb2 hb9)⟩
    | true =>
      have hz := smallO_size hsm
      obtain ⟨cp, hcp⟩ : ∃ p, clipP L u v = p := ⟨_, rfl⟩
      obtain ⟨r, hr⟩ : ∃ r, fdR L cp key true = r := ⟨_, rfl⟩
      have HF0 : Hid (∀ W', Below W.heap.size W W' → Calls Tryd.prog 9 #[.slice a n c, .agg #[.int .i64 u, .int .i64 v], .int .i32 key, .bool true] W' fun e w' => e = .returned (fdV r) ∧ Below W'.heap.size W' w') := by
        intro W' hb
        have := HM _ a n c L ⟨u, v⟩ key true W' (HGW.out.up hb) (h.below hb) hq hkb hz
        simp only [hcp, hr] at this
        exact this
      by_cases hno : L = [] ∨ bracketsP L cp o1 o2 true = none
      · have hrn : r = ((0, 0), (0, 0), 0, false) := by
          rw [← hr]
          by_cases hL : L = []
          · unfold fdR; rw [if_pos hL]
          · have hb := hno.resolve_left hL
            obtain ⟨k1, k2, k3, k4, k5, k6⟩ := brk_keys hbk
            rw [fdR_of hL (fdP_br k1 k2 k3 k4 k5 k6), hbk]
            simp only [hb]
            rfl
        rw [hrn] at HF0
        unfold fdV plV at HF0
        simp only at HF0
        clear h h1 hw1 hb1 g1 hsm hl hbk hz0 hoo hz hcp hr hno hrn hq hkb
        go_enter Tryd.func6, Tryd.ntmps6
        go_upto_region 1 with fail
        rw [HW1.out]
        go_wp2_with (first
          | (go_at_call 15; refine (HBK.out _).mono ?_; rintro e w5 ⟨rfl, hw5⟩; subst hw5)
          | (go_at_call 8; refine HSM.out.mono ?_; rintro e w2 ⟨rfl, hb2⟩; obtain ⟨x0, x1, xf0, xf1⟩ := row2 ((hb2.block _ (Array.getElem?_eq_some_iff.1 G1.out).1).trans G1.out))
          | (go_at_call 9; refine (HF0.out _ (btr HB1.out hb2)).mono ?_; rintro e w3 ⟨rfl, hb3⟩; obtain ⟨w4, hw4, -, -, -, hb4⟩ := ltwo w3 (.cells #[.int .i64 0, .int .i64 0] 24) (.cells #[.int .i64 0, .int .i64 0] 24); have HB4 : Hid (Below W.heap.size W w4) := btr HB1.out (btr hb2 (btr hb3 hb4)); have HW4 := Lib.hid hw4; clear hw4 hb4 hb3)
          | (rw [HW4.out]; go_at_call 11; refine (HAW.out _ HB4.out).mono ?_; rintro e w9 ⟨rfl, hb9⟩)
          | (go_at_call 11; (first | refine (HAW.out _ HB4.out).mono ?_ | (rw [HW4.out]; refine (HAW.out _ HB4.out).mono ?_)); rintro e w9 ⟨rfl, hb9⟩))
        go_ret
        exact ⟨rfl, btr HB4.out hb9⟩
      have hL : L ≠ [] := fun e => hno (.inl e)
      obtain ⟨⟨⟨a1, a2⟩, ⟨b1, b2⟩⟩, hbr⟩ : ∃ y, bracketsP L cp o1 o2 true = some y := by
        cases hb : bracketsP L cp o1 o2 true with
        | none => exact absurd (.inr hb) hno
        | some y => exact ⟨y, rfl⟩
      have hrn : r = ((a1, a2), (b1, b2), 0, true) := by
        rw [← hr]
        obtain ⟨k1, k2, k3, k4, k5, k6⟩ := brk_keys hbk
        rw [fdR_of hL (fdP_br k1 k2 k3 k4 k5 k6), hbk]
        simp only [hbr]
        rfl
      rw [hrn] at HF0
      unfold fdV plV at HF0
      simp only at HF0
      have hpp : pairP L cp o1 o2 = some ((a1, a2), (b1, b2)) := by rw [← brackets_around]; exact hbr
      obtain ⟨ra, rb, ea, eb, ah1, ah2, hlt, -⟩ := pairP_props hoo hpp
      have hst := BtI.start hoo hpp
      have hcok := clipP_ok hL u v
      rw [hcp] at hcok
      obtain ⟨c1, c2⟩ := cp
      have hoa : okP L (a1, a2) := runeP_ok ra
      have hob : okP L (b1, b2) := runeP_ok rb
      have HC0 : Hid (∀ W', Below W.heap.size W W' → Calls Tryd.prog 12 #[.slice a n c, .agg #[.int .i64 u, .int .i64 v]] W' fun e w' => e = .returned (.agg #[.int .i64 (c1 : Nat), .int .i64 (c2 : Nat)]) ∧ Below W'.heap.size W' w') := by
        intro W' hb
        have := rclip_any _ a n c L ⟨u, v⟩ W' (h.below hb) hq
        simp only [hcp] at this
        exact this
      have HCL : Hid (∀ (p1 p2 : Nat) (W' : World), okP L (p1, p2) → Below W.heap.size W W' → Calls Tryd.prog 12 #[.slice a n c, .agg #[.int .i64 (p1 : Nat), .int .i64 (p2 : Nat)]] W' fun e w' => e = .returned (.agg #[.int .i64 (p1 : Nat), .int .i64 (p2 : Nat)]) ∧ Below W'.heap.size W' w') := by
        intro p1 p2 W' hp hb
        have := rclip_any _ a n c L ⟨(p1 : Nat), (p2 : Nat)⟩ W' (h.below hb) (okP_i64 hz hp)
        have he : clipP L ((p1 : Nat) : Int) ((p2 : Nat) : Int) = (p1, p2) := clipP_id hp
        simp only [he] at this
        exact this
      have HCA := Lib.hid (fun W' hb => HCL.out a1 a2 W' hoa hb)
      have HCB := Lib.hid (fun W' hb => HCL.out b1 b2 W' hob hb)
      have HA1 : Hid (∀ W', Calls Tryd.prog 13 #[.agg #[.int .i64 (c1 : Nat), .int .i64 (c2 : Nat)], .agg #[.int .i64 (a1 : Nat), .int .i64 (a2 : Nat)]] W' fun e w' => e = .returned (.bool false) ∧ Below W'.heap.size W' w') := by
        intro W'
        have := rahead_any (c1, c2) (a1, a2) W'
        rw [ah1] at this
        exact this
      have HA2 : Hid (∀ W', Calls Tryd.prog 13 #[.agg #[.int .i64 (b1 : Nat), .int .i64 (b2 : Nat)], .agg #[.int .i64 (c1 : Nat), .int .i64 (c2 : Nat)]] W' fun e w' => e = .returned (.bool false) ∧ Below W'.heap.size W' w') := by
        intro W'
        have := rahead_any (b1, b2) (c1, c2) W'
        rw [ah2] at this
        exact this
      have HAH : Hid (∀ (p1 p2 q1 q2 : Nat) (W' : World), Calls Tryd.prog 13 #[.agg #[.int .i64 (p1 : Nat), .int .i64 (p2 : Nat)], .agg #[.int .i64 (q1 : Nat), .int .i64 (q2 : Nat)]] W' fun e w' => e = .returned (.bool (aheadP (p1, p2) (q1, q2))) ∧ Below W'.heap.size W' w') := fun p1 p2 q1 q2 W' => rahead_any (p1, p2) (q1, q2) W'
      have HPL : Hid (∀ W', Below W.heap.size W W' → Calls Tryd.prog 16 #[.slice a n c] W' fun e w' => ∃ a' n' c', e = .returned (.slice a' n' c') ∧ Hid (RdP w' a' n' c' (places L) ∧ Below W'.heap.size W' w')) := fun W' hb => rplaces_any _ a n c L W' (h.below hb) hz
      -- the lines of both ends
      obtain ⟨ba, off, xa, ca, rfl, han, hbl, la, rda⟩ := okP.line (p := (a1, a2)) h hoa (Below.refl _ W)
      obtain ⟨ba', off', xb, cb, hab, hbn, -, lb, rdb⟩ := okP.line (p := (b1, b2)) h hob (Below.refl _ W)
      cases hab
      simp only at la rda han lb rdb hbn ea eb
      have ra2 := ra.2
      have rb2 := rb.2
      simp only at ra2 rb2
      obtain ⟨ma, hma⟩ : ∃ m, (lnL L a1).length = m := ⟨_, rfl⟩
      obtain ⟨mb, hmb⟩ : ∃ m, (lnL L b1).length = m := ⟨_, rfl⟩
      rw [hma] at la rda ra2
      rw [hmb] at lb rdb rb2
      obtain ⟨ya, za, rfl, hya, ka⟩ := rda.at_ (i := a2) ra2
      obtain ⟨yb, zb, rfl, hyb, kb⟩ := rdb.at_ (i := b2) rb2
      rw [ea] at ka
      rw [eb] at kb
      have hmsa := rda.small
      have hmsb := rdb.small
      have HCE : Hid (∀ V, Below W.heap.size W V → V.cell? ⟨ba, off + a1, none⟩ = some (.slice (some ⟨ya, za, none⟩) ma ca) ∧ V.cell? ⟨ya, za + a2, none⟩ = some (.int .i32 o1) ∧ V.cell? ⟨ba, off + b1, none⟩ = some (.slice (some ⟨yb, zb, none⟩) mb cb) ∧ V.cell? ⟨yb, zb + b2, none⟩ = some (.int .i32 o2)) := fun V hV => ⟨(hV.cell (p := ⟨ba, off + a1, none⟩) hbl).trans la, (hV.cell (p := ⟨ya, za + a2, none⟩) hya).trans ka, (hV.cell (p := ⟨ba, off + b1, none⟩) hbl).trans lb, (hV.cell (p := ⟨yb, zb + b2, none⟩) hyb).trans kb⟩
      have d1 : ¬ (a1 : Int) < 0 := by omega
      have d2 : decide ((a1 : Int) < 0) = false := by simp
      have d3 : ¬ (a2 : Int) < 0 := by omega
      have d4 : decide ((a2 : Int) < 0) = false := by simp
      have d5 : ¬ (b1 : Int) < 0 := by omega
      have d6 : decide ((b1 : Int) < 0) = false := by simp
      have d7 : ¬ (b2 : Int) < 0 := by omega
      have d8 : decide ((b2 : Int) < 0) = false := by simp
      have t1 : ((ma : Int) == 0) = false := by simp; omega
      have t2 : ((mb : Int) == 0) = false := by simp; omega
      have HH := Lib.hid h
      have HLL := Lib.hid hl
      have HOO := Lib.hid hoo
      have HST := Lib.hid hst
      have hnp : (places L).length ≤ 262144 := Nat.le_trans (places_len L) hz
      have HNP := Lib.hid hnp
      clear h h1 hw1 hb1 g1 hsm hl hbk hz0 hoo hz hcp hr hno hrn hq hkb hL hbr hpp ra rb ea eb ah1 ah2 hlt hst hcok hoa hob la rda lb rdb hma hmb hya ka hyb kb hbl hnp HCL
      go_enter Tryd.func6, Tryd.ntmps6
      go_upto_region 1 with fail
      rw [HW1.out]
      go_upto_region 5 with (first
        | (go_at_call 15; refine (HBK.out _).mono ?_; rintro e w5 ⟨rfl, hw5⟩; subst hw5)
        | (go_at_call 8; refine HSM.out.mono ?_; rintro e w2 ⟨rfl, hb2⟩; obtain ⟨x0, x1, xf0, xf1⟩ := row2 ((hb2.block _ (Array.getElem?_eq_some_iff.1 G1.out).1).trans G1.out))
        | (go_at_call 9; refine (HF0.out _ (btr HB1.out hb2)).mono ?_; rintro e w3 ⟨rfl, hb3⟩))
      obtain ⟨w4, hw4, hsz4, g5, g6, hb4⟩ := ltwo w3 (.cells #[.int .i64 (a1 : Nat), .int .i64 (a2 : Nat)] 24) (.cells #[.int .i64 (b1 : Nat), .int .i64 (b2 : Nat)] 24)
      rw [hw4]
      have hb14 := btr hb2 (btr hb3 hb4)
      have HB4 : Hid (Below W.heap.size W w4) := btr HB1.out hb14
      have hg4 := (hb14.block _ (Array.getElem?_eq_some_iff.1 G1.out).1).trans G1.out
      obtain ⟨x0, x1, xf0, xf1⟩ := row2 hg4
      have hSW : W.heap.size < w3.heap.size := Nat.lt_of_lt_of_le (Array.getElem?_eq_some_iff.1 G1.out).1 (btr hb2 hb3).size
      obtain ⟨S, hS⟩ : ∃ S, w3.heap.size = S := ⟨_, rfl⟩
      rw [hS] at g5 g6 hSW
      rw [hS]
      have G4 := Lib.hid hg4
      have GA := Lib.hid g5
      have GB := Lib.hid g6
      have HSW := Lib.hid hSW
      clear hw4 hsz4 g5 g6 hb4 hb3 hb2 hb14 hg4 hS hSW
      have HS5 : Hid (∀ V, Below w4.heap.size w4 V → BkS W S c1 c2 a1 a2 b1 b2 ((V.setCell ⟨W.heap.size, 0, none⟩ (.int .i64 (c1 : Nat))).setCell ⟨W.heap.size, 1, none⟩ (.int .i64 (c2 : Nat)))) := by
        intro V hV
        have k1 : ¬ S = W.heap.size := by have := HSW.out; omega
        have k2 : ¬ S + 1 = W.heap.size := by have := HSW.out; omega
        refine ⟨setCell_below (setCell_below (btr HB4.out hV) _ _ _ (Nat.le_refl _)) _ _ _ (Nat.le_refl _), heap_set (heap_set ((hV.block _ (Array.getElem?_eq_some_iff.1 G4.out).1).trans G4.out) 0 _) 1 _, ?_, ?_⟩
        · exact (Below.heap_setCell _ _ _ _ k1).trans ((Below.heap_setCell _ _ _ _ k1).trans ((hV.block _ (Array.getElem?_eq_some_iff.1 GA.out).1).trans GA.out))
        · exact (Below.heap_setCell _ _ _ _ k2).trans ((Below.heap_setCell _ _ _ _ k2).trans ((hV.block _ (Array.getElem?_eq_some_iff.1 GB.out).1).trans GB.out))
      have HCX : Hid (∀ V, BkS W S c1 c2 a1 a2 b1 b2 V → V.cell? ⟨W.heap.size, 0, none⟩ = some (.int .i64 (c1 : Nat)) ∧ V.cell? ⟨W.heap.size, 1, none⟩ = some (.int .i64 (c2 : Nat)) ∧ V.cell? ⟨S, 0, none⟩ = some (.int .i64 (a1 : Nat)) ∧ V.cell? ⟨S, 1, none⟩ = some (.int .i64 (a2 : Nat)) ∧ V.cell? ⟨S + 1, 0, none⟩ = some (.int .i64 (b1 : Nat)) ∧ V.cell? ⟨S + 1, 1, none⟩ = some (.int .i64 (b2 : Nat)) ∧ V.cell? ⟨ba, off + a1, none⟩ = some (.slice (some ⟨ya, za, none⟩) ma ca) ∧ V.cell? ⟨ya, za + a2, none⟩ = some (.int .i32 o1) ∧ V.cell? ⟨ba, off + b1, none⟩ = some (.slice (some ⟨yb, zb, none⟩) mb cb) ∧ V.cell? ⟨yb, zb + b2, none⟩ = some (.int .i32 o2)) := by
        intro V hV
        obtain ⟨l0, l1, l2, l3⟩ := HCE.out V hV.1
        exact ⟨(row2 hV.2.1).1, (row2 hV.2.1).2.1, (row2 hV.2.2.1).1, (row2 hV.2.2.1).2.1, (row2 hV.2.2.2).1, (row2 hV.2.2.2).2.1, l0, l1, l2, l3⟩
      go_wp2_with (go_at_call 12; refine (HC0.out _ HB4.out).mono ?_; rintro e w5 ⟨rfl, hb5⟩; obtain ⟨x0, x1, xf0, xf1⟩ := row2 ((hb5.block _ (Array.getElem?_eq_some_iff.1 G4.out).1).trans G4.out))
      obtain ⟨V5, hV5⟩ : ∃ V, (w5.setCell ⟨W.heap.size, 0, none⟩ (.int .i64 (c1 : Nat))).setCell ⟨W.heap.size, 1, none⟩ (.int .i64 (c2 : Nat)) = V := ⟨_, rfl⟩
      have hs5 := HS5.out w5 hb5
      rw [hV5] at hs5
      rw [hV5]
      have hs5d : BkS W S c1 c2 a1 a2 b1 b2 V5.drew := hs5.below ((Below.refl _ V5).drew)
      clear hV5 hb5 x0 x1 xf0 xf1
      refine wp_region_held (S := BkS W S c1 c2 a1 a2 b1 b2) (by kernel_rfl) ?_
      change wpAnyH _ _ _ _ _ _ _ _ (World.drew _)
      have hHA : (BkS W S c1 c2 a1 a2 b1 b2) (World.drew V5) := hs5d
      refine takeH 0 (some 45) (v := ?_) rfl rfl (by kernel_rfl) (by kernel_rfl) (by kernel_rfl) (fun _ _ _ h => h) (Or.inl ⟨by kernel_rfl, ?_⟩) hHA ?_
      rotate_left
      · intro w' hSw
        obtain ⟨s0, s1, s2, s3, s4, s5, s6, s7, s8, s9⟩ := HCX.out _ hSw
        go_simp
        try with_reducible rfl
      (try simp only [Act.put, List.setIfInBounds_toArray, List.set_cons_zero, List.set_cons_succ])
      refine takeH 1 (some 46) (v := ?_) rfl rfl (by kernel_rfl) (by kernel_rfl) (by kernel_rfl) (fun _ _ _ h => h) (Or.inl ⟨by kernel_rfl, ?_⟩) hHA ?_
      rotate_left
      · intro w' hSw
        obtain ⟨s0, s1, s2, s3, s4, s5, s6, s7, s8, s9⟩ := HCX.out _ hSw
        go_simp
        try with_reducible rfl
      (try simp only [Act.put, List.setIfInBounds_toArray, List.set_cons_zero, List.set_cons_succ])
      refine takeH 2 (some 47) (v := ?_) rfl rfl (by kernel_rfl) (by kernel_rfl) (by kernel_rfl) (fun _ _ _ h => h) (Or.inl ⟨by kernel_rfl, ?_⟩) hHA ?_
      rotate_left
      · intro w' hSw
        obtain ⟨s0, s1, s2, s3, s4, s5, s6, s7, s8, s9⟩ := HCX.out _ hSw
        go_simp
        try with_reducible rfl
      (try simp only [Act.put, List.setIfInBounds_toArray, List.set_cons_zero, List.set_cons_succ])
      refine takeH 3 (some 48) (v := ?_) rfl rfl (by kernel_rfl) (by kernel_rfl) (by kernel_rfl) (fun _ _ _ h => h) (Or.inl ⟨by kernel_rfl, ?_⟩) hHA ?_
      rotate_left
      · intro w' hSw
        obtain ⟨s0, s1, s2, s3, s4, s5, s6, s7, s8, s9⟩ := HCX.out _ hSw
        go_simp
        try with_reducible rfl
      (try simp only [Act.put, List.setIfInBounds_toArray, List.set_cons_zero, List.set_cons_succ])
      refine takeH 4 (some 49) (v := ?_) rfl rfl (by kernel_rfl) (by kernel_rfl) (by kernel_rfl) (fun _ _ _ h => h) (Or.inl ⟨by kernel_rfl, ?_⟩) hHA ?_
      rotate_left
      · intro w' hSw
        obtain ⟨s0, s1, s2, s3, s4, s5, s6, s7, s8, s9⟩ := HCX.out _ hSw
        go_simp
        try with_reducible rfl
      (try simp only [Act.put, List.setIfInBounds_toArray, List.set_cons_zero, List.set_cons_succ])
      refine callH 5 (some 50) (f := 13) (args := ?_) rfl rfl (by kernel_rfl) (by kernel_rfl) ?_ ?_
      rotate_left
      · go_simp
        try with_reducible rfl
      refine (HA1.out _).mono ?_
      rintro e vA1 ⟨rfl, hbA1⟩
      have hHA1 := hHA.below hbA1
      refine ⟨_, rfl, hHA1, ?_⟩
      (try simp only [Act.put, List.setIfInBounds_toArray, List.set_cons_zero, List.set_cons_succ])
      refine takeH 6 (some 51) (v := ?_) rfl rfl (by kernel_rfl) (by kernel_rfl) (by kernel_rfl) (fun _ _ _ h => h) (Or.inl ⟨by kernel_rfl, ?_⟩) hHA1 ?_
      rotate_left
      · intro w' hSw
        obtain ⟨s0, s1, s2, s3, s4, s5, s6, s7, s8, s9⟩ := HCX.out _ hSw
        go_simp
        try with_reducible rfl
      (try simp only [Act.put, List.setIfInBounds_toArray, List.set_cons_zero, List.set_cons_succ])
      refine takeH 7 (some 52) (v := ?_) rfl rfl (by kernel_rfl) (by kernel_rfl) (by kernel_rfl) (fun _ _ _ h => h) (Or.inl ⟨by kernel_rfl, ?_⟩) hHA1 ?_
      rotate_left
      · intro w' hSw
        obtain ⟨s0, s1, s2, s3, s4, s5, s6, s7, s8, s9⟩ := HCX.out _ hSw
        go_simp
        try with_reducible rfl
      (try simp only [Act.put, List.setIfInBounds_toArray, List.set_cons_zero, List.set_cons_succ])
      refine takeH 8 (some 53) (v := ?_) rfl rfl (by kernel_rfl) (by kernel_rfl) (by kernel_rfl) (fun _ _ _ h => h) (Or.inl ⟨by kernel_rfl, ?_⟩) hHA1 ?_
      rotate_left
      · intro w' hSw
        obtain ⟨s0, s1, s2, s3, s4, s5, s6, s7, s8, s9⟩ := HCX.out _ hSw
        go_simp
        try with_reducible rfl
      (try simp only [Act.put, List.setIfInBounds_toArray, List.set_cons_zero, List.set_cons_succ])
      refine takeH 9 (some 54) (v := ?_) rfl rfl (by kernel_rfl) (by kernel_rfl) (by kernel_rfl) (fun _ _ _ h => h) (Or.inl ⟨by kernel_rfl, ?_⟩) hHA1 ?_
      rotate_left
      · intro w' hSw
        obtain ⟨s0, s1, s2, s3, s4, s5, s6, s7, s8, s9⟩ := HCX.out _ hSw
        go_simp
        try with_reducible rfl
      (try simp only [Act.put, List.setIfInBounds_toArray, List.set_cons_zero, List.set_cons_succ])
      refine callH 10 (some 55) (f := 13) (args := ?_) rfl rfl (by kernel_rfl) (by kernel_rfl) ?_ ?_
      rotate_left
      · go_simp
        try with_reducible rfl
      refine (HA2.out _).mono ?_
      rintro e vA2 ⟨rfl, hbA2⟩
      have hHA12 := hHA1.below hbA2
      refine ⟨_, rfl, hHA12, ?_⟩
      (try simp only [Act.put, List.setIfInBounds_toArray, List.set_cons_zero, List.set_cons_succ])
      refine takeH 11 (some 56) (v := ?_) rfl rfl (by kernel_rfl) (by kernel_rfl) (by kernel_rfl) (fun _ _ _ h => h) (Or.inl ⟨by kernel_rfl, ?_⟩) hHA12 ?_
      rotate_left
      · intro w' hSw
        obtain ⟨s0, s1, s2, s3, s4, s5, s6, s7, s8, s9⟩ := HCX.out _ hSw
        go_simp
        try with_reducible rfl
      (try simp only [Act.put, List.setIfInBounds_toArray, List.set_cons_zero, List.set_cons_succ])
      refine takeH 12 (some 57) (v := ?_) rfl rfl (by kernel_rfl) (by kernel_rfl) (by kernel_rfl) (fun _ _ _ h => h) (Or.inl ⟨by kernel_rfl, ?_⟩) hHA12 ?_
      rotate_left
      · intro w' hSw
        obtain ⟨s0, s1, s2, s3, s4, s5, s6, s7, s8, s9⟩ := HCX.out _ hSw
        go_simp
        try with_reducible rfl
      (try simp only [Act.put, List.setIfInBounds_toArray, List.set_cons_zero, List.set_cons_succ])
      refine takeH 13 (some 58) (v := ?_) rfl rfl (by kernel_rfl) (by kernel_rfl) (by kernel_rfl) (fun _ _ _ h => h) (Or.inl ⟨by kernel_rfl, ?_⟩) hHA12 ?_
      rotate_left
      · intro w' hSw
        obtain ⟨s0, s1, s2, s3, s4, s5, s6, s7, s8, s9⟩ := HCX.out _ hSw
        go_simp
        try with_reducible rfl
      (try simp only [Act.put, List.setIfInBounds_toArray, List.set_cons_zero, List.set_cons_succ])
      refine takeH 14 (some 59) (v := ?_) rfl rfl (by kernel_rfl) (by kernel_rfl) (by kernel_rfl) (fun _ _ _ h => h) (Or.inl ⟨by kernel_rfl, ?_⟩) hHA12 ?_
      rotate_left
      · intro w' hSw
        obtain ⟨s0, s1, s2, s3, s4, s5, s6, s7, s8, s9⟩ := HCX.out _ hSw
        go_simp
        try with_reducible rfl
      (try simp only [Act.put, List.setIfInBounds_toArray, List.set_cons_zero, List.set_cons_succ])
      refine takeH 16 (some 61) (v := ?_) rfl rfl (by kernel_rfl) (by kernel_rfl) (by kernel_rfl) (fun _ _ _ h => h) (Or.inl ⟨by kernel_rfl, ?_⟩) hHA12 ?_
      rotate_left
      · intro w' hSw
        obtain ⟨s0, s1, s2, s3, s4, s5, s6, s7, s8, s9⟩ := HCX.out _ hSw
        go_simp
        try with_reducible rfl
      (try simp only [Act.put, List.setIfInBounds_toArray, List.set_cons_zero, List.set_cons_succ])
      refine callH 15 (some 60) (f := 12) (args := ?_) rfl rfl (by kernel_rfl) (by kernel_rfl) ?_ ?_
      rotate_left
      · go_simp
        try with_reducible rfl
      refine (HCA.out _ hHA12.1).mono ?_
      rintro e vA3 ⟨rfl, hbA3⟩
      have hHA123 := hHA12.below hbA3
      refine ⟨_, rfl, hHA123, ?_⟩
      (try simp only [Act.put, List.setIfInBounds_toArray, List.set_cons_zero, List.set_cons_succ])
      refine takeH 17 (some 62) (v := ?_) rfl rfl (by kernel_rfl) (by kernel_rfl) (by kernel_rfl) (fun _ _ _ h => h) (Or.inl ⟨by kernel_rfl, ?_⟩) hHA123 ?_
      rotate_left
      · intro w' hSw
        obtain ⟨s0, s1, s2, s3, s4, s5, s6, s7, s8, s9⟩ := HCX.out _ hSw
        go_simp
        try with_reducible rfl
      (try simp only [Act.put, List.setIfInBounds_toArray, List.set_cons_zero, List.set_cons_succ])
      refine takeH 18 (some 63) (v := ?_) rfl rfl (by kernel_rfl) (by kernel_rfl) (by kernel_rfl) (fun _ _ _ h => h) (Or.inl ⟨by kernel_rfl, ?_⟩) hHA123 ?_
      rotate_left
      · intro w' hSw
        obtain ⟨s0, s1, s2, s3, s4, s5, s6, s7, s8, s9⟩ := HCX.out _ hSw
        go_simp
        try with_reducible rfl
      (try simp only [Act.put, List.setIfInBounds_toArray, List.set_cons_zero, List.set_cons_succ])
      refine takeH 19 (some 64) (v := ?_) rfl rfl (by kernel_rfl) (by kernel_rfl) (by kernel_rfl) (fun _ _ _ h => h) (Or.inl ⟨by kernel_rfl, ?_⟩) hHA123 ?_
      rotate_left
      · intro w' hSw
        obtain ⟨s0, s1, s2, s3, s4, s5, s6, s7, s8, s9⟩ := HCX.out _ hSw
        go_simp
        try with_reducible rfl
      (try simp only [Act.put, List.setIfInBounds_toArray, List.set_cons_zero, List.set_cons_succ])
      refine takeH 20 (some 65) (v := ?_) rfl rfl (by kernel_rfl) (by kernel_rfl) (by kernel_rfl) (fun _ _ _ h => h) (Or.inl ⟨by kernel_rfl, ?_⟩) hHA123 ?_
      rotate_left
      · intro w' hSw
        obtain ⟨s0, s1, s2, s3, s4, s5, s6, s7, s8, s9⟩ := HCX.out _ hSw
        go_simp
        try with_reducible rfl
      (try simp only [Act.put, List.setIfInBounds_toArray, List.set_cons_zero, List.set_cons_succ])
      refine takeH 21 (some 66) (v := ?_) rfl rfl (by kernel_rfl) (by kernel_rfl) (by kernel_rfl) (fun _ _ _ h => h) (Or.inl ⟨by kernel_rfl, ?_⟩) hHA123 ?_
      rotate_left
      · intro w' hSw
        obtain ⟨s0, s1, s2, s3, s4, s5, s6, s7, s8, s9⟩ := HCX.out _ hSw
        go_simp
        try with_reducible rfl
      (try simp only [Act.put, List.setIfInBounds_toArray, List.set_cons_zero, List.set_cons_succ])
      refine takeH 23 (some 68) (v := ?_) rfl rfl (by kernel_rfl) (by kernel_rfl) (by kernel_rfl) (fun _ _ _ h => h) (Or.inl ⟨by kernel_rfl, ?_⟩) hHA123 ?_
      rotate_left
      · intro w' hSw
        obtain ⟨s0, s1, s2, s3, s4, s5, s6, s7, s8, s9⟩ := HCX.out _ hSw
        go_simp
        try with_reducible rfl
      (try simp only [Act.put, List.setIfInBounds_toArray, List.set_cons_zero, List.set_cons_succ])
      refine callH 22 (some 67) (f := 12) (args := ?_) rfl rfl (by kernel_rfl) (by kernel_rfl) ?_ ?_
      rotate_left
      · go_simp
        try with_reducible rfl
      refine (HCB.out _ hHA123.1).mono ?_
      rintro e vA4 ⟨rfl, hbA4⟩
      have hHA1234 := hHA123.below hbA4
      refine ⟨_, rfl, hHA1234, ?_⟩
      (try simp only [Act.put, List.setIfInBounds_toArray, List.set_cons_zero, List.set_cons_succ])
      refine takeH 24 (some 69) (v := ?_) rfl rfl (by kernel_rfl) (by kernel_rfl) (by kernel_rfl) (fun _ _ _ h => h) (Or.inl ⟨by kernel_rfl, ?_⟩) hHA1234 ?_
      rotate_left
      · intro w' hSw
        obtain ⟨s0, s1, s2, s3, s4, s5, s6, s7, s8, s9⟩ := HCX.out _ hSw
        go_simp
        try with_reducible rfl
      (try simp only [Act.put, List.setIfInBounds_toArray, List.set_cons_zero, List.set_cons_succ])
      refine takeH 25 (some 70) (v := ?_) rfl rfl (by kernel_rfl) (by kernel_rfl) (by kernel_rfl) (fun _ _ _ h => h) (Or.inl ⟨by kernel_rfl, ?_⟩) hHA1234 ?_
      rotate_left
      · intro w' hSw
        obtain ⟨s0, s1, s2, s3, s4, s5, s6, s7, s8, s9⟩ := HCX.out _ hSw
        go_simp
        try with_reducible rfl
      (try simp only [Act.put, List.setIfInBounds_toArray, List.set_cons_zero, List.set_cons_succ])
      refine takeH 26 (some 71) (v := ?_) rfl rfl (by kernel_rfl) (by kernel_rfl) (by kernel_rfl) (fun _ _ _ h => h) (Or.inl ⟨by kernel_rfl, ?_⟩) hHA1234 ?_
      rotate_left
      · intro w' hSw
        obtain ⟨s0, s1, s2, s3, s4, s5, s6, s7, s8, s9⟩ := HCX.out _ hSw
        go_simp
        try with_reducible rfl
      (try simp only [Act.put, List.setIfInBounds_toArray, List.set_cons_zero, List.set_cons_succ])
      refine takeH 27 (some 72) (v := ?_) rfl rfl (by kernel_rfl) (by kernel_rfl) (by kernel_rfl) (fun _ _ _ h => h) (Or.inl ⟨by kernel_rfl, ?_⟩) hHA1234 ?_
      rotate_left
      · intro w' hSw
        obtain ⟨s0, s1, s2, s3, s4, s5, s6, s7, s8, s9⟩ := HCX.out _ hSw
        go_simp
        try with_reducible rfl
      (try simp only [Act.put, List.setIfInBounds_toArray, List.set_cons_zero, List.set_cons_succ])
      refine takeH 28 (some 73) (v := ?_) rfl rfl (by kernel_rfl) (by kernel_rfl) (by kernel_rfl) (fun _ _ _ h => h) (Or.inl ⟨by kernel_rfl, ?_⟩) hHA1234 ?_
      rotate_left
      · intro w' hSw
        obtain ⟨s0, s1, s2, s3, s4, s5, s6, s7, s8, s9⟩ := HCX.out _ hSw
        go_simp
        try with_reducible rfl
      (try simp only [Act.put, List.setIfInBounds_toArray, List.set_cons_zero, List.set_cons_succ])
      refine takeH 29 (some 74) (v := ?_) rfl rfl (by kernel_rfl) (by kernel_rfl) (by kernel_rfl) (fun _ _ _ h => h) (Or.inl ⟨by kernel_rfl, ?_⟩) hHA1234 ?_
      rotate_left
      · intro w' hSw
        obtain ⟨s0, s1, s2, s3, s4, s5, s6, s7, s8, s9⟩ := HCX.out _ hSw
        go_simp
        try with_reducible rfl
      (try simp only [Act.put, List.setIfInBounds_toArray, List.set_cons_zero, List.set_cons_succ])
      refine takeH 30 (some 75) (v := ?_) rfl rfl (by kernel_rfl) (by kernel_rfl) (by kernel_rfl) (fun _ _ _ h => h) (Or.inl ⟨by kernel_rfl, ?_⟩) hHA1234 ?_
      rotate_left
      · intro w' hSw
        obtain ⟨s0, s1, s2, s3, s4, s5, s6, s7, s8, s9⟩ := HCX.out _ hSw
        go_simp
        try with_reducible rfl
      (try simp only [Act.put, List.setIfInBounds_toArray, List.set_cons_zero, List.set_cons_succ])
      refine takeH 31 (some 76) (v := ?_) rfl rfl (by kernel_rfl) (by kernel_rfl) (by kernel_rfl) (fun _ _ _ h => h) (Or.inl ⟨by kernel_rfl, ?_⟩) hHA1234 ?_
      rotate_left
      · intro w' hSw
        obtain ⟨s0, s1, s2, s3, s4, s5, s6, s7, s8, s9⟩ := HCX.out _ hSw
        go_simp
        try with_reducible rfl
      (try simp only [Act.put, List.setIfInBounds_toArray, List.set_cons_zero, List.set_cons_succ])
      refine takeH 32 (some 77) (v := ?_) rfl rfl (by kernel_rfl) (by kernel_rfl) (by kernel_rfl) (fun _ _ _ h => h) (Or.inl ⟨by kernel_rfl, ?_⟩) hHA1234 ?_
      rotate_left
      · intro w' hSw
        obtain ⟨s0, s1, s2, s3, s4, s5, s6, s7, s8, s9⟩ := HCX.out _ hSw
        go_simp
        try with_reducible rfl
      (try simp only [Act.put, List.setIfInBounds_toArray, List.set_cons_zero, List.set_cons_succ])
      refine takeH 33 (some 78) (v := ?_) rfl rfl (by kernel_rfl) (by kernel_rfl) (by kernel_rfl) (fun _ _ _ h => h) (Or.inl ⟨by kernel_rfl, ?_⟩) hHA1234 ?_
      rotate_left
      · intro w' hSw
        obtain ⟨s0, s1, s2, s3, s4, s5, s6, s7, s8, s9⟩ := HCX.out _ hSw
        go_simp
        try with_reducible rfl
      (try simp only [Act.put, List.setIfInBounds_toArray, List.set_cons_zero, List.set_cons_succ])
      refine takeH 34 (some 79) (v := ?_) rfl rfl (by kernel_rfl) (by kernel_rfl) (by kernel_rfl) (fun _ _ _ h => h) (Or.inl ⟨by kernel_rfl, ?_⟩) hHA1234 ?_
      rotate_left
      · intro w' hSw
        obtain ⟨s0, s1, s2, s3, s4, s5, s6, s7, s8, s9⟩ := HCX.out _ hSw
        go_simp
        try with_reducible rfl
      (try simp only [Act.put, List.setIfInBounds_toArray, List.set_cons_zero, List.set_cons_succ])
      refine takeH 35 (some 80) (v := ?_) rfl rfl (by kernel_rfl) (by kernel_rfl) (by kernel_rfl) (fun _ _ _ h => h) (Or.inl ⟨by kernel_rfl, ?_⟩) hHA1234 ?_
      rotate_left
      · intro w' hSw
        obtain ⟨s0, s1, s2, s3, s4, s5, s6, s7, s8, s9⟩ := HCX.out _ hSw
        go_simp
        try with_reducible rfl
      (try simp only [Act.put, List.setIfInBounds_toArray, List.set_cons_zero, List.set_cons_succ])
      refine takeH 36 (some 81) (v := ?_) rfl rfl (by kernel_rfl) (by kernel_rfl) (by kernel_rfl) (fun _ _ _ h => h) (Or.inl ⟨by kernel_rfl, ?_⟩) hHA1234 ?_
      rotate_left
      · intro w' hSw
        obtain ⟨s0, s1, s2, s3, s4, s5, s6, s7, s8, s9⟩ := HCX.out _ hSw
        go_simp
        try with_reducible rfl
      (try simp only [Act.put, List.setIfInBounds_toArray, List.set_cons_zero, List.set_cons_succ])
      refine takeH 37 (some 82) (v := ?_) rfl rfl (by kernel_rfl) (by kernel_rfl) (by kernel_rfl) (fun _ _ _ h => h) (Or.inl ⟨by kernel_rfl, ?_⟩) hHA1234 ?_
      rotate_left
      · intro w' hSw
        obtain ⟨s0, s1, s2, s3, s4, s5, s6, s7, s8, s9⟩ := HCX.out _ hSw
        go_simp
        try with_reducible rfl
      (try simp only [Act.put, List.setIfInBounds_toArray, List.set_cons_zero, List.set_cons_succ])
      refine takeH 38 (some 83) (v := ?_) rfl rfl (by kernel_rfl) (by kernel_rfl) (by kernel_rfl) (fun _ _ _ h => h) (Or.inl ⟨by kernel_rfl, ?_⟩) hHA1234 ?_
      rotate_left
      · intro w' hSw
        obtain ⟨s0, s1, s2, s3, s4, s5, s6, s7, s8, s9⟩ := HCX.out _ hSw
        go_simp
        try with_reducible rfl
      (try simp only [Act.put, List.setIfInBounds_toArray, List.set_cons_zero, List.set_cons_succ])
      refine takeH 39 (some 84) (v := ?_) rfl rfl (by kernel_rfl) (by kernel_rfl) (by kernel_rfl) (fun _ _ _ h => h) (Or.inl ⟨by kernel_rfl, ?_⟩) hHA1234 ?_
      rotate_left
      · intro w' hSw
        obtain ⟨s0, s1, s2, s3, s4, s5, s6, s7, s8, s9⟩ := HCX.out _ hSw
        go_simp
        try with_reducible rfl
      (try simp only [Act.put, List.setIfInBounds_toArray, List.set_cons_zero, List.set_cons_succ])
      refine takeH 40 (some 85) (v := ?_) rfl rfl (by kernel_rfl) (by kernel_rfl) (by kernel_rfl) (fun _ _ _ h => h) (Or.inl ⟨by kernel_rfl, ?_⟩) hHA1234 ?_
      rotate_left
      · intro w' hSw
        obtain ⟨s0, s1, s2, s3, s4, s5, s6, s7, s8, s9⟩ := HCX.out _ hSw
        go_simp
        try with_reducible rfl
      (try simp only [Act.put, List.setIfInBounds_toArray, List.set_cons_zero, List.set_cons_succ])
      refine takeH 41 (some 86) (v := ?_) rfl rfl (by kernel_rfl) (by kernel_rfl) (by kernel_rfl) (fun _ _ _ h => h) (Or.inl ⟨by kernel_rfl, ?_⟩) hHA1234 ?_
      rotate_left
      · intro w' hSw
        obtain ⟨s0, s1, s2, s3, s4, s5, s6, s7, s8, s9⟩ := HCX.out _ hSw
        go_simp
        try with_reducible rfl
      (try simp only [Act.put, List.setIfInBounds_toArray, List.set_cons_zero, List.set_cons_succ])
      refine takeH 42 (some 87) (v := ?_) rfl rfl (by kernel_rfl) (by kernel_rfl) (by kernel_rfl) (fun _ _ _ h => h) (Or.inl ⟨by kernel_rfl, ?_⟩) hHA1234 ?_
      rotate_left
      · intro w' hSw
        obtain ⟨s0, s1, s2, s3, s4, s5, s6, s7, s8, s9⟩ := HCX.out _ hSw
        go_simp
        try with_reducible rfl
      (try simp only [Act.put, List.setIfInBounds_toArray, List.set_cons_zero, List.set_cons_succ])
      refine takeH 43 (some 88) (v := ?_) rfl rfl (by kernel_rfl) (by kernel_rfl) (by kernel_rfl) (fun _ _ _ h => h) (Or.inl ⟨by kernel_rfl, ?_⟩) hHA1234 ?_
      rotate_left
      · intro w' hSw
        obtain ⟨s0, s1, s2, s3, s4, s5, s6, s7, s8, s9⟩ := HCX.out _ hSw
        go_simp
        try with_reducible rfl
      (try simp only [Act.put, List.setIfInBounds_toArray, List.set_cons_zero, List.set_cons_succ])
      refine takeH 44 (some 89) (v := ?_) rfl rfl (by kernel_rfl) (by kernel_rfl) (by kernel_rfl) (fun _ _ _ h => h) (Or.inl ⟨by kernel_rfl, ?_⟩) hHA1234 ?_
      rotate_left
      · intro w' hSw
        obtain ⟨s0, s1, s2, s3, s4, s5, s6, s7, s8, s9⟩ := HCX.out _ hSw
        go_simp
        try with_reducible rfl
      (try simp only [Act.put, List.setIfInBounds_toArray, List.set_cons_zero, List.set_cons_succ])
      refine takeH 45 (some 90) (v := ?_) rfl rfl (by kernel_rfl) (by kernel_rfl) (by kernel_rfl) (fun _ _ _ h => h) (Or.inl ⟨by kernel_rfl, ?_⟩) hHA1234 ?_
      rotate_left
      · intro w' hSw
        obtain ⟨s0, s1, s2, s3, s4, s5, s6, s7, s8, s9⟩ := HCX.out _ hSw
        go_simp
        try with_reducible rfl
      (try simp only [Act.put, List.setIfInBounds_toArray, List.set_cons_zero, List.set_cons_succ])
      refine takeH 46 (some 91) (v := ?_) rfl rfl (by kernel_rfl) (by kernel_rfl) (by kernel_rfl) (fun _ _ _ h => h) (Or.inl ⟨by kernel_rfl, ?_⟩) hHA1234 ?_
      rotate_left
      · intro w' hSw
        obtain ⟨s0, s1, s2, s3, s4, s5, s6, s7, s8, s9⟩ := HCX.out _ hSw
        go_simp
        try with_reducible rfl
      (try simp only [Act.put, List.setIfInBounds_toArray, List.set_cons_zero, List.set_cons_succ])
      refine takeH 47 (some 92) (v := ?_) rfl rfl (by kernel_rfl) (by kernel_rfl) (by kernel_rfl) (fun _ _ _ h => h) (Or.inl ⟨by kernel_rfl, ?_⟩) hHA1234 ?_
      rotate_left
      · intro w' hSw
        obtain ⟨s0, s1, s2, s3, s4, s5, s6, s7, s8, s9⟩ := HCX.out _ hSw
        go_simp
        try with_reducible rfl
      (try simp only [Act.put, List.setIfInBounds_toArray, List.set_cons_zero, List.set_cons_succ])
      refine takeH 48 (some 93) (v := ?_) rfl rfl (by kernel_rfl) (by kernel_rfl) (by kernel_rfl) (fun _ _ _ h => h) (Or.inl ⟨by kernel_rfl, ?_⟩) hHA1234 ?_
      rotate_left
      · intro w' hSw
        obtain ⟨s0, s1, s2, s3, s4, s5, s6, s7, s8, s9⟩ := HCX.out _ hSw
        go_simp
        try with_reducible rfl
      (try simp only [Act.put, List.setIfInBounds_toArray, List.set_cons_zero, List.set_cons_succ])
      refine takeH 49 (some 94) (v := ?_) rfl rfl (by kernel_rfl) (by kernel_rfl) (by kernel_rfl) (fun _ _ _ h => h) (Or.inl ⟨by kernel_rfl, ?_⟩) hHA1234 ?_
      rotate_left
      · intro w' hSw
        obtain ⟨s0, s1, s2, s3, s4, s5, s6, s7, s8, s9⟩ := HCX.out _ hSw
        go_simp
        try with_reducible rfl
      (try simp only [Act.put, List.setIfInBounds_toArray, List.set_cons_zero, List.set_cons_succ])
      refine takeH 50 (some 95) (v := ?_) rfl rfl (by kernel_rfl) (by kernel_rfl) (by kernel_rfl) (fun _ _ _ h => h) (Or.inl ⟨by kernel_rfl, ?_⟩) hHA1234 ?_
      rotate_left
      · intro w' hSw
        obtain ⟨s0, s1, s2, s3, s4, s5, s6, s7, s8, s9⟩ := HCX.out _ hSw
        go_simp
        try with_reducible rfl
      (try simp only [Act.put, List.setIfInBounds_toArray, List.set_cons_zero, List.set_cons_succ])
      refine takeH 51 (some 96) (v := ?_) rfl rfl (by kernel_rfl) (by kernel_rfl) (by kernel_rfl) (fun _ _ _ h => h) (Or.inl ⟨by kernel_rfl, ?_⟩) hHA1234 ?_
      rotate_left
      · intro w' hSw
        obtain ⟨s0, s1, s2, s3, s4, s5, s6, s7, s8, s9⟩ := HCX.out _ hSw
        go_simp
        try with_reducible rfl
      (try simp only [Act.put, List.setIfInBounds_toArray, List.set_cons_zero, List.set_cons_succ])
      refine takeH 52 (some 97) (v := ?_) rfl rfl (by kernel_rfl) (by kernel_rfl) (by kernel_rfl) (fun _ _ _ h => h) (Or.inl ⟨by kernel_rfl, ?_⟩) hHA1234 ?_
      rotate_left
      · intro w' hSw
        obtain ⟨s0, s1, s2, s3, s4, s5, s6, s7, s8, s9⟩ := HCX.out _ hSw
        go_simp
        try with_reducible rfl
      (try simp only [Act.put, List.setIfInBounds_toArray, List.set_cons_zero, List.set_cons_succ])
      refine takeH 53 (some 98) (v := ?_) rfl rfl (by kernel_rfl) (by kernel_rfl) (by kernel_rfl) (fun _ _ _ h => h) (Or.inl ⟨by kernel_rfl, ?_⟩) hHA1234 ?_
      rotate_left
      · intro w' hSw
        obtain ⟨s0, s1, s2, s3, s4, s5, s6, s7, s8, s9⟩ := HCX.out _ hSw
        go_simp
        try with_reducible rfl
      (try simp only [Act.put, List.setIfInBounds_toArray, List.set_cons_zero, List.set_cons_succ])
      refine takeH 54 (some 99) (v := ?_) rfl rfl (by kernel_rfl) (by kernel_rfl) (by kernel_rfl) (fun _ _ _ h => h) (Or.inl ⟨by kernel_rfl, ?_⟩) hHA1234 ?_
      rotate_left
      · intro w' hSw
        obtain ⟨s0, s1, s2, s3, s4, s5, s6, s7, s8, s9⟩ := HCX.out _ hSw
        go_simp
        try with_reducible rfl
      (try simp only [Act.put, List.setIfInBounds_toArray, List.set_cons_zero, List.set_cons_succ])
      refine takeH 55 (some 100) (v := ?_) rfl rfl (by kernel_rfl) (by kernel_rfl) (by kernel_rfl) (fun _ _ _ h => h) (Or.inl ⟨by kernel_rfl, ?_⟩) hHA1234 ?_
      rotate_left
      · intro w' hSw
        obtain ⟨s0, s1, s2, s3, s4, s5, s6, s7, s8, s9⟩ := HCX.out _ hSw
        go_simp
        try with_reducible rfl
      (try simp only [Act.put, List.setIfInBounds_toArray, List.set_cons_zero, List.set_cons_succ])
      refine takeH 56 (some 101) (v := ?_) rfl rfl (by kernel_rfl) (by kernel_rfl) (by kernel_rfl) (fun _ _ _ h => h) (Or.inl ⟨by kernel_rfl, ?_⟩) hHA1234 ?_
      rotate_left
      · intro w' hSw
        obtain ⟨s0, s1, s2, s3, s4, s5, s6, s7, s8, s9⟩ := HCX.out _ hSw
        go_simp
        try with_reducible rfl
      (try simp only [Act.put, List.setIfInBounds_toArray, List.set_cons_zero, List.set_cons_succ])
      refine takeH 57 (some 102) (v := ?_) rfl rfl (by kernel_rfl) (by kernel_rfl) (by kernel_rfl) (fun _ _ _ h => h) (Or.inl ⟨by kernel_rfl, ?_⟩) hHA1234 ?_
      rotate_left
      · intro w' hSw
        obtain ⟨s0, s1, s2, s3, s4, s5, s6, s7, s8, s9⟩ := HCX.out _ hSw
        go_simp
        try with_reducible rfl
      (try simp only [Act.put, List.setIfInBounds_toArray, List.set_cons_zero, List.set_cons_succ])
      refine takeH 58 (some 103) (v := ?_) rfl rfl (by kernel_rfl) (by kernel_rfl) (by kernel_rfl) (fun _ _ _ h => h) (Or.inl ⟨by kernel_rfl, ?_⟩) hHA1234 ?_
      rotate_left
      · intro w' hSw
        obtain ⟨s0, s1, s2, s3, s4, s5, s6, s7, s8, s9⟩ := HCX.out _ hSw
        go_simp
        try with_reducible rfl
      (try simp only [Act.put, List.setIfInBounds_toArray, List.set_cons_zero, List.set_cons_succ])
      refine takeH 59 (some 104) (v := ?_) rfl rfl (by kernel_rfl) (by kernel_rfl) (by kernel_rfl) (fun _ _ _ h => h) (Or.inl ⟨by kernel_rfl, ?_⟩) hHA1234 ?_
      rotate_left
      · intro w' hSw
        obtain ⟨s0, s1, s2, s3, s4, s5, s6, s7, s8, s9⟩ := HCX.out _ hSw
        go_simp
        try with_reducible rfl
      (try simp only [Act.put, List.setIfInBounds_toArray, List.set_cons_zero, List.set_cons_succ])
      refine takeH 60 (some 105) (v := ?_) rfl rfl (by kernel_rfl) (by kernel_rfl) (by kernel_rfl) (fun _ _ _ h => h) (Or.inl ⟨by kernel_rfl, ?_⟩) hHA1234 ?_
      rotate_left
      · intro w' hSw
        obtain ⟨s0, s1, s2, s3, s4, s5, s6, s7, s8, s9⟩ := HCX.out _ hSw
        go_simp
        try with_reducible rfl
      (try simp only [Act.put, List.setIfInBounds_toArray, List.set_cons_zero, List.set_cons_succ])
      refine takeH 61 (some 106) (v := ?_) rfl rfl (by kernel_rfl) (by kernel_rfl) (by kernel_rfl) (fun _ _ _ h => h) (Or.inl ⟨by kernel_rfl, ?_⟩) hHA1234 ?_
      rotate_left
      · intro w' hSw
        obtain ⟨s0, s1, s2, s3, s4, s5, s6, s7, s8, s9⟩ := HCX.out _ hSw
        go_simp
        try with_reducible rfl
      (try simp only [Act.put, List.setIfInBounds_toArray, List.set_cons_zero, List.set_cons_succ])
      refine takeH 62 (some 107) (v := ?_) rfl rfl (by kernel_rfl) (by kernel_rfl) (by kernel_rfl) (fun _ _ _ h => h) (Or.inl ⟨by kernel_rfl, ?_⟩) hHA1234 ?_
      rotate_left
      · intro w' hSw
        obtain ⟨s0, s1, s2, s3, s4, s5, s6, s7, s8, s9⟩ := HCX.out _ hSw
        go_simp
        try with_reducible rfl
      (try simp only [Act.put, List.setIfInBounds_toArray, List.set_cons_zero, List.set_cons_succ])
      refine takeH 63 (some 108) (v := ?_) rfl rfl (by kernel_rfl) (by kernel_rfl) (by kernel_rfl) (fun _ _ _ h => h) (Or.inl ⟨by kernel_rfl, ?_⟩) hHA1234 ?_
      rotate_left
      · intro w' hSw
        obtain ⟨s0, s1, s2, s3, s4, s5, s6, s7, s8, s9⟩ := HCX.out _ hSw
        go_simp
        try with_reducible rfl
      (try simp only [Act.put, List.setIfInBounds_toArray, List.set_cons_zero, List.set_cons_succ])
      refine takeH 64 (some 109) (v := ?_) rfl rfl (by kernel_rfl) (by kernel_rfl) (by kernel_rfl) (fun _ _ _ h => h) (Or.inl ⟨by kernel_rfl, ?_⟩) hHA1234 ?_
      rotate_left
      · intro w' hSw
        obtain ⟨s0, s1, s2, s3, s4, s5, s6, s7, s8, s9⟩ := HCX.out _ hSw
        go_simp
        try with_reducible rfl
      (try simp only [Act.put, List.setIfInBounds_toArray, List.set_cons_zero, List.set_cons_succ])
      refine takeH 65 (some 110) (v := ?_) rfl rfl (by kernel_rfl) (by kernel_rfl) (by kernel_rfl) (fun _ _ _ h => h) (Or.inl ⟨by kernel_rfl, ?_⟩) hHA1234 ?_
      rotate_left
      · intro w' hSw
        obtain ⟨s0, s1, s2, s3, s4, s5, s6, s7, s8, s9⟩ := HCX.out _ hSw
        go_simp
        try with_reducible rfl
      (try simp only [Act.put, List.setIfInBounds_toArray, List.set_cons_zero, List.set_cons_succ])
      refine takeH 66 (some 111) (v := ?_) rfl rfl (by kernel_rfl) (by kernel_rfl) (by kernel_rfl) (fun _ _ _ h => h) (Or.inl ⟨by kernel_rfl, ?_⟩) hHA1234 ?_
      rotate_left
      · intro w' hSw
        obtain ⟨s0, s1, s2, s3, s4, s5, s6, s7, s8, s9⟩ := HCX.out _ hSw
        go_simp
        try with_reducible rfl
      (try simp only [Act.put, List.setIfInBounds_toArray, List.set_cons_zero, List.set_cons_succ])
      refine takeH 67 (some 112) (v := ?_) rfl rfl (by kernel_rfl) (by kernel_rfl) (by kernel_rfl) (fun _ _ _ h => h) (Or.inl ⟨by kernel_rfl, ?_⟩) hHA1234 ?_
      rotate_left
      · intro w' hSw
        obtain ⟨s0, s1, s2, s3, s4, s5, s6, s7, s8, s9⟩ := HCX.out _ hSw
        go_simp
        try with_reducible rfl
      (try simp only [Act.put, List.setIfInBounds_toArray, List.set_cons_zero, List.set_cons_succ])
      refine takeH 68 (some 113) (v := ?_) rfl rfl (by kernel_rfl) (by kernel_rfl) (by kernel_rfl) (fun _ _ _ h => h) (Or.inl ⟨by kernel_rfl, ?_⟩) hHA1234 ?_
      rotate_left
      · intro w' hSw
        obtain ⟨s0, s1, s2, s3, s4, s5, s6, s7, s8, s9⟩ := HCX.out _ hSw
        go_simp
        try with_reducible rfl
      (try simp only [Act.put, List.setIfInBounds_toArray, List.set_cons_zero, List.set_cons_succ])
      refine takeH 69 (some 114) (v := ?_) rfl rfl (by kernel_rfl) (by kernel_rfl) (by kernel_rfl) (fun _ _ _ h => h) (Or.inl ⟨by kernel_rfl, ?_⟩) hHA1234 ?_
      rotate_left
      · intro w' hSw
        obtain ⟨s0, s1, s2, s3, s4, s5, s6, s7, s8, s9⟩ := HCX.out _ hSw
        go_simp
        try with_reducible rfl
      (try simp only [Act.put, List.setIfInBounds_toArray, List.set_cons_zero, List.set_cons_succ])
      refine wpAnyH_done (by kernel_rfl) ?_ _
      have hEND := hHA1234
      have HS9 := Lib.hid hEND
      go_wp2_with (go_at_call 16; refine (HPL.out _ HS9.out.1).mono ?_; rintro e wP ⟨pa, np, pc, rfl, hp⟩; have HP := Lib.hid hp.out.1; have hbP := hp.out.2; have hnp : np ≤ 262144 := (by have h1 := hp.out.1.len; have h2 := HNP.out; omega); have hsP := HS9.out.below hbP; obtain ⟨x0, x1, -, -⟩ := row2 hsP.2.1; obtain ⟨y0, y1, -, -⟩ := row2 hsP.2.2.1; obtain ⟨z2, z1, -, -⟩ := row2 hsP.2.2.2; obtain ⟨l0, l1, l2, l3⟩ := HCE.out _ hsP.1; have HSP := Lib.hid hsP; clear hsP hbP; clear hp)
      clear x0 x1 y0 y1 z2 z1 l0 l1 l2 l3
      go_loopw [14, 15] (fun v14 v15 wr => ∃ (k : Int) (i : Nat), v14 = .int .i64 k ∧ v15 = .int .i64 (i : Nat) ∧ i ≤ np ∧ Hid (0 ≤ k ∧ k ≤ (i : Int)) ∧ Hid (BtI L (a1, a2) (b1, b2) o1 o2 i k) ∧ Hid (Below wP.heap.size wP wr)) (fun _ v15 _ => np - (intOf v15).toNat)
      case atStart => exact ⟨0, 0, rfl, rfl, Nat.zero_le _, ⟨by omega, by omega⟩, HST.out, Below.refl _ _⟩
      case round =>
        obtain ⟨k, i, rfl, rfl, hin, HK, HBI, HB⟩ := hrel
        by_cases hi : i < np
        · obtain ⟨⟨q1, q2⟩, hqq⟩ : ∃ q, (places L)[i]? = some q := ⟨_, List.getElem?_eq_getElem (by rw [HP.out.len]; exact hi)⟩
          obtain ⟨pb, po, rfl, hpb, e0, e1⟩ := HP.out.get HB.out hqq
          simp only at e0 e1
          have hok : okP L (q1, q2) := places_mem.1 (List.mem_of_getElem? hqq)
          obtain ⟨w6, hw6⟩ : ∃ w6, wr.alloc (.cells #[.int .i64 (q1 : Nat), .int .i64 (q2 : Nat)] 24) = w6 := ⟨_, rfl⟩
          have hb6 : Below wr.heap.size wr w6 := by rw [← hw6]; exact bal _ _
          have hn6 : At w6 wr.heap.size (q1, q2) := by rw [← hw6]; exact heap_alloc_new wr _
          obtain ⟨u0, u1, -, -⟩ := row2 hn6
          simp only at u0 u1
          have HB6 : Hid (Below wP.heap.size wP w6) := btr HB.out hb6
          have HS6 := Lib.hid (HSP.out.below HB6.out)
          obtain ⟨x0, x1, -, -⟩ := row2 HS6.out.2.1
          obtain ⟨y0, y1, -, -⟩ := row2 HS6.out.2.2.1
          obtain ⟨z2, z1, -, -⟩ := row2 HS6.out.2.2.2
          have HN6 := Lib.hid hn6
          obtain ⟨bq, oq, xq, cq, hbo, hq1n, hblq, l0, hrd⟩ := okP.line (p := (q1, q2)) HH.out hok HS6.out.1
          cases hbo
          simp only at l0 hrd hq1n
          have hq2 := hok.2
          simp only at hq2
          obtain ⟨x, hxx⟩ : ∃ x, lnL L q1 = x := ⟨_, rfl⟩
          rw [hxx] at l0 hrd hq2
          obtain ⟨m, hm⟩ : ∃ m, x.length = m := ⟨_, rfl⟩
          rw [hm] at l0 hrd hq2
          have hms := hrd.small
          have HRD := Lib.hid hrd
          have g0 : (i : Int) < (np : Int) := by omega
          have g1 : decide ((i : Int) < (np : Int)) = true := by simp; omega
          have g2 : ¬ (i : Int) < 0 := by omega
          have g3 : decide ((i : Int) < 0) = false := by simp
          have g4 : ¬ (q1 : Int) < 0 := by omega
          have g5 : decide ((q1 : Int) < 0) = false := by simp
          have HI := Lib.hid hi
          have HQ := Lib.hid hqq
          have HX := Lib.hid hxx
          have HM := Lib.hid hm
          have hkk := HK.out
          have hkk1 : k ≤ 262144 := by omega
          have hkk0 : 0 ≤ k := hkk.1
          obtain ⟨h1, hh1⟩ : ∃ y, aheadP (q1, q2) (a1, a2) = y := ⟨_, rfl⟩
          obtain ⟨h2, hh2⟩ : ∃ y, aheadP (b1, b2) (q1, q2) = y := ⟨_, rfl⟩
          have HAA := Lib.hid (fun W' => HAH.out q1 q2 a1 a2 W')
          have HAB := Lib.hid (fun W' => HAH.out b1 b2 q1 q2 W')
          rw [hh1] at HAA
          rw [hh2] at HAB
          have HH1 := Lib.hid hh1
          have HH2 := Lib.hid hh2
          obtain ⟨SQ, hSQ⟩ : ∃ S, wr.heap.size = S := ⟨_, rfl⟩
          have HSQ := Lib.hid hSQ
          rw [hSQ] at u0 u1
          rw [hSQ] at HN6
          have HW6 := Lib.hid hw6
          have tkA : True := trivial
          have tkB : True := trivial
          clear hb6 hn6 hqq hok hrd hxx hm hh1 hh2 hi hw6 hSQ hkk
          have BASE : True := trivial
          cases h1 with
          | true =>
            have HNB : Hid (btwB L (a1, a2) (b1, b2) (q1, q2) = false) := by
              show _ = _
              unfold btwB
              rw [HH1.out, HH2.out]
              simp only [HX.out, HM.out]
              cases decide (q2 < m) <;> rfl
            go_upto_region 16 with fail
            rw [HW6.out, HSQ.out]
            go_wp2_with (go_at_call 13; have _t := tkA; refine (HAA.out _).mono ?_; rintro e w7 ⟨rfl, hb7⟩; have hs7 := HS6.out.below hb7; obtain ⟨x0, x1, -, -⟩ := row2 hs7.2.1; obtain ⟨y0, y1, -, -⟩ := row2 hs7.2.2.1; obtain ⟨z2, z1, -, -⟩ := row2 hs7.2.2.2; have hn7 := HN6.out.keep (hb7.block _ HN6.out.lt); obtain ⟨u0, u1, -, -⟩ := row2 hn7; simp only at u0 u1; have l0 := (hb7.cell (p := ⟨ba, off + q1, none⟩) (by have h3 := HS6.out.1.size; show ba < _; omega)).trans l0; have HS7 := Lib.hid hs7; have HN7 := Lib.hid hn7; have HB7 : Hid (Below wP.heap.size wP w7) := btr HB6.out hb7; clear hs7 hn7 hb7; clear tkA _t)
            go_roundw
            case rel => exact ⟨k, i + 1, rfl, by go_num, by have := HI.out; omega, by have := HK.out; show _ ∧ _; omega, HBI.out.skip HQ.out HNB.out, HB7.out⟩
            case measure => have := HI.out; simp [intOf]; omega
          | false =>
            cases h2 with
            | true =>
              have HNB : Hid (btwB L (a1, a2) (b1, b2) (q1, q2) = false) := by
                show _ = _
                unfold btwB
                rw [HH1.out, HH2.out]
                simp only [HX.out, HM.out]
                cases decide (q2 < m) <;> rfl
              go_upto_region 16 with fail
              rw [HW6.out, HSQ.out]
              go_wp2_with (first | (go_at_call 13; have _t := tkA; refine (HAA.out _).mono ?_; rintro e w7 ⟨rfl, hb7⟩; have hs7 := HS6.out.below hb7; obtain ⟨x0, x1, -, -⟩ := row2 hs7.2.1; obtain ⟨y0, y1, -, -⟩ := row2 hs7.2.2.1; obtain ⟨z2, z1, -, -⟩ := row2 hs7.2.2.2; have hn7 := HN6.out.keep (hb7.block _ HN6.out.lt); obtain ⟨u0, u1, -, -⟩ := row2 hn7; simp only at u0 u1; have l0 := (hb7.cell (p := ⟨ba, off + q1, none⟩) (by have h3 := HS6.out.1.size; show ba < _; omega)).trans l0; have HS7 := Lib.hid hs7; have HN7 := Lib.hid hn7; have HB7 : Hid (Below wP.heap.size wP w7) := btr HB6.out hb7; clear hs7 hn7 hb7; clear tkA _t) | (go_at_call 13; have _t := tkB; refine (HAB.out _).mono ?_; rintro e w8 ⟨rfl, hb8⟩; have hs8 := HS7.out.below hb8; obtain ⟨x0, x1, -, -⟩ := row2 hs8.2.1; obtain ⟨y0, y1, -, -⟩ := row2 hs8.2.2.1; obtain ⟨z2, z1, -, -⟩ := row2 hs8.2.2.2; have hn8 := HN7.out.keep (hb8.block _ HN7.out.lt); obtain ⟨u0, u1, -, -⟩ := row2 hn8; simp only at u0 u1; have l0 := (hb8.cell (p := ⟨ba, off + q1, none⟩) (by have h3 := HS7.out.1.size; show ba < _; omega)).trans l0; have HS8 := Lib.hid hs8; have HN8 := Lib.hid hn8; have HB8 : Hid (Below wP.heap.size wP w8) := btr HB7.out hb8; clear hs8 hn8 hb8; clear tkB _t))
              go_roundw
              case rel => exact ⟨k, i + 1, rfl, by go_num, by have := HI.out; omega, by have := HK.out; show _ ∧ _; omega, HBI.out.skip HQ.out HNB.out, HB8.out⟩
              case measure => have := HI.out; simp [intOf]; omega
            | false =>
              by_cases hm0 : m = 0
              · have e2 : ((m : Int) == 0) = true := by simp; omega
                have HNB : Hid (btwB L (a1, a2) (b1, b2) (q1, q2) = false) := by
                  show _ = _
                  unfold btwB
                  rw [HH1.out, HH2.out]
                  simp only [HX.out, HM.out]
                  simp; omega
                clear hm0
                go_upto_region 16 with fail
                rw [HW6.out, HSQ.out]
                go_wp2_with (first | (go_at_call 13; have _t := tkA; refine (HAA.out _).mono ?_; rintro e w7 ⟨rfl, hb7⟩; have hs7 := HS6.out.below hb7; obtain ⟨x0, x1, -, -⟩ := row2 hs7.2.1; obtain ⟨y0, y1, -, -⟩ := row2 hs7.2.2.1; obtain ⟨z2, z1, -, -⟩ := row2 hs7.2.2.2; have hn7 := HN6.out.keep (hb7.block _ HN6.out.lt); obtain ⟨u0, u1, -, -⟩ := row2 hn7; simp only at u0 u1; have l0 := (hb7.cell (p := ⟨ba, off + q1, none⟩) (by have h3 := HS6.out.1.size; show ba < _; omega)).trans l0; have HS7 := Lib.hid hs7; have HN7 := Lib.hid hn7; have HB7 : Hid (Below wP.heap.size wP w7) := btr HB6.out hb7; clear hs7 hn7 hb7; clear tkA _t) | (go_at_call 13; have _t := tkB; refine (HAB.out _).mono ?_; rintro e w8 ⟨rfl, hb8⟩; have hs8 := HS7.out.below hb8; obtain ⟨x0, x1, -, -⟩ := row2 hs8.2.1; obtain ⟨y0, y1, -, -⟩ := row2 hs8.2.2.1; obtain ⟨z2, z1, -, -⟩ := row2 hs8.2.2.2; have hn8 := HN7.out.keep (hb8.block _ HN7.out.lt); obtain ⟨u0, u1, -, -⟩ := row2 hn8; simp only at u0 u1; have l0 := (hb8.cell (p := ⟨ba, off + q1, none⟩) (by have h3 := HS7.out.1.size; show ba < _; omega)).trans l0; have HS8 := Lib.hid hs8; have HN8 := Lib.hid hn8; have HB8 : Hid (Below wP.heap.size wP w8) := btr HB7.out hb8; clear hs8 hn8 hb8; clear tkB _t))
                go_roundw
                case rel => exact ⟨k, i + 1, rfl, by go_num, by have := HI.out; omega, by have := HK.out; show _ ∧ _; omega, HBI.out.skip HQ.out HNB.out, HB8.out⟩
                case measure => have := HI.out; simp [intOf]; omega
              · have e2 : ((m : Int) == 0) = false := by simp; omega
                have hq2m : q2 < m := by omega
                have HNB : Hid (btwB L (a1, a2) (b1, b2) (q1, q2) = true) := by
                  show _ = _
                  unfold btwB
                  rw [HH1.out, HH2.out]
                  simp only [HX.out, HM.out]
                  simp; omega
                obtain ⟨rb, ro, rfl, hrb, r2⟩ := HRD.out.at_ (i := q2) hq2m
                obtain ⟨rr, hrr⟩ : ∃ r, x.getD q2 0 = r := ⟨_, rfl⟩
                rw [hrr] at r2
                obtain ⟨hbt, hbn, hbz⟩ := HBI.out.take HQ.out HNB.out
                simp only at hbt hbn hbz
                rw [HX.out, hrr] at hbt hbn hbz
                have e3 : ¬ (q2 : Int) < 0 := by omega
                have e4 : decide ((q2 : Int) < 0) = false := by simp
                have c2 := (HN6.out.lt)
                have HRR := Lib.hid hrr
                clear hrr hm0 c2
                have KEEP : True := trivial
                have HBW : Hid (∀ V, Below W.heap.size W V → V.cell? ⟨rb, ro + q2, none⟩ = w6.cell? ⟨rb, ro + q2, none⟩) := by
                  intro V hV
                  obtain ⟨bq', oq', xq', cq', hbo', -, -, l0', hrd'⟩ := okP.line (p := (q1, q2)) HH.out (places_mem.1 (List.mem_of_getElem? HQ.out)) hV
                  cases hbo'
                  simp only at l0' hrd'
                  rw [HX.out, HM.out] at l0' hrd'
                  have hbq : ba < W.heap.size := by
                    obtain ⟨b5, o5, x5, c5, hb5, -, hlt5, -, -⟩ := okP.line (p := (q1, q2)) HH.out (places_mem.1 (List.mem_of_getElem? HQ.out)) (Below.refl _ W)
                    cases hb5
                    exact hlt5
                  have e5 := (hV.cell (p := ⟨ba, off + q1, none⟩) hbq).trans ((HS6.out.1.cell (p := ⟨ba, off + q1, none⟩) hbq).symm)
                  rw [l0, l0'] at e5
                  simp only [Option.some.injEq, Value.slice.injEq, true_and] at e5
                  obtain ⟨rfl, rfl⟩ := e5
                  obtain ⟨rb', ro', hab', -, r2'⟩ := hrd'.at_ (i := q2) hq2m
                  cases hab'
                  rw [r2, r2', HRR.out]
                by_cases hr1 : rr = o1
                · rw [hr1] at r2 hbt hbn hbz
                  have hwv : wB o1 o2 o1 = 1 := by unfold wB; rw [if_pos rfl, if_neg HOO.out]; rfl
                  rw [hwv] at hbt hbn hbz
                  have q1' : (o1 == o2) = false := by simp; exact HOO.out
                  have q2' : ¬ o1 = o2 := HOO.out
                  obtain ⟨k', hk'⟩ : ∃ k', k + 1 = k' := ⟨_, rfl⟩
                  have hk2 : k + 1 = k' := hk'
                  rw [hk'] at hbt hbn hbz
                  have HKB : Hid (0 ≤ k' ∧ k' ≤ ((i + 1 : Nat) : Int)) := by have := HK.out; show _ ∧ _; omega
                  have w0 : IntKind.i64.wrap k' = k' := by have h3 := HKB.out; have h4 := HI.out; rw [IntKind.wrap_i64]; omega
                  have f0 : ¬ k' < 0 := by omega
                  have f1 : decide (k' < 0) = false := by simp; omega
                  have HBT := Lib.hid hbt
                  clear hbt hbn hwv
                  by_cases hz0 : k' = 0
                  · have z0 : (k' == 0) = true := by simp [hz0]
                    have heq := hbz hz0
                    simp only [Prod.mk.injEq] at heq
                    obtain ⟨rfl, rfl⟩ := heq
                    clear hbz hz0
                    go_upto_region 16 with fail
                    rw [HW6.out, HSQ.out]
                    go_wp2_with (first
                      | (go_at_call 13; have _t := tkA; refine (HAA.out _).mono ?_; rintro e w7 ⟨rfl, hb7⟩; have hs7 := HS6.out.below hb7; obtain ⟨x0, x1, -, -⟩ := row2 hs7.2.1; obtain ⟨y0, y1, -, -⟩ := row2 hs7.2.2.1; obtain ⟨z2, z1, -, -⟩ := row2 hs7.2.2.2; have hn7 := HN6.out.keep (hb7.block _ HN6.out.lt); obtain ⟨u0, u1, -, -⟩ := row2 hn7; simp only at u0 u1; have l0 := (hb7.cell (p := ⟨ba, off + q1, none⟩) (by have h3 := HS6.out.1.size; show ba < _; omega)).trans l0; have HS7 := Lib.hid hs7; have HN7 := Lib.hid hn7; have HB7 : Hid (Below wP.heap.size wP w7) := btr HB6.out hb7; clear hs7 hn7 hb7; clear tkA _t)
                      | (go_at_call 13; have _t := tkB; refine (HAB.out _).mono ?_; rintro e w8 ⟨rfl, hb8⟩; have hs8 := HS7.out.below hb8; obtain ⟨x0, x1, -, -⟩ := row2 hs8.2.1; obtain ⟨y0, y1, -, -⟩ := row2 hs8.2.2.1; obtain ⟨z2, z1, -, -⟩ := row2 hs8.2.2.2; have hn8 := HN7.out.keep (hb8.block _ HN7.out.lt); obtain ⟨u0, u1, -, -⟩ := row2 hn8; simp only at u0 u1; have l0 := (hb8.cell (p := ⟨ba, off + q1, none⟩) (by have h3 := HS7.out.1.size; show ba < _; omega)).trans l0; have HS8 := Lib.hid hs8; have HN8 := Lib.hid hn8; have HB8 : Hid (Below wP.heap.size wP w8) := btr HB7.out hb8; clear hs8 hn8 hb8; clear tkB _t))
                    have r2 : w8.cell? ⟨rb, ro + q2, none⟩ = some (.int .i32 o1) := (HBW.out _ HS8.out.1).trans r2
                    go_quiet (fail)
                    go_wp2_with fail
                    go_quiet (fail)
                    go_wp2_with fail
                    go_roundw
                    case rel => exact ⟨k', i + 1, rfl, by go_num, by have := HI.out; omega, HKB.out, HBT.out, by first | exact bdrewN (bdrewN HB8.out _) _ | exact bdrewN HB8.out _⟩
                    case measure => have := HI.out; simp [intOf]; omega
                  · have z0 : (k' == 0) = false := by simp [hz0]
                    clear hbz hz0
                    go_upto_region 16 with fail
                    rw [HW6.out, HSQ.out]
                    go_wp2_with (first
                      | (go_at_call 13; have _t := tkA; refine (HAA.out _).mono ?_; rintro e w7 ⟨rfl, hb7⟩; have hs7 := HS6.out.below hb7; obtain ⟨x0, x1, -, -⟩ := row2 hs7.2.1; obtain ⟨y0, y1, -, -⟩ := row2 hs7.2.2.1; obtain ⟨z2, z1, -, -⟩ := row2 hs7.2.2.2; have hn7 := HN6.out.keep (hb7.block _ HN6.out.lt); obtain ⟨u0, u1, -, -⟩ := row2 hn7; simp only at u0 u1; have l0 := (hb7.cell (p := ⟨ba, off + q1, none⟩) (by have h3 := HS6.out.1.size; show ba < _; omega)).trans l0; have HS7 := Lib.hid hs7; have HN7 := Lib.hid hn7; have HB7 : Hid (Below wP.heap.size wP w7) := btr HB6.out hb7; clear hs7 hn7 hb7; clear tkA _t)
                      | (go_at_call 13; have _t := tkB; refine (HAB.out _).mono ?_; rintro e w8 ⟨rfl, hb8⟩; have hs8 := HS7.out.below hb8; obtain ⟨x0, x1, -, -⟩ := row2 hs8.2.1; obtain ⟨y0, y1, -, -⟩ := row2 hs8.2.2.1; obtain ⟨z2, z1, -, -⟩ := row2 hs8.2.2.2; have hn8 := HN7.out.keep (hb8.block _ HN7.out.lt); obtain ⟨u0, u1, -, -⟩ := row2 hn8; simp only at u0 u1; have l0 := (hb8.cell (p := ⟨ba, off + q1, none⟩) (by have h3 := HS7.out.1.size; show ba < _; omega)).trans l0; have HS8 := Lib.hid hs8; have HN8 := Lib.hid hn8; have HB8 : Hid (Below wP.heap.size wP w8) := btr HB7.out hb8; clear hs8 hn8 hb8; clear tkB _t))
                    have r2 : w8.cell? ⟨rb, ro + q2, none⟩ = some (.int .i32 o1) := (HBW.out _ HS8.out.1).trans r2
                    go_quiet (fail)
                    go_wp2_with fail
                    go_quiet (fail)
                    go_wp2_with fail
                    go_roundw
                    case rel => exact ⟨k', i + 1, rfl, by go_num, by have := HI.out; omega, HKB.out, HBT.out, by first | exact bdrewN (bdrewN HB8.out _) _ | exact bdrewN HB8.out _⟩
                    case measure => have := HI.out; simp [intOf]; omega
                by_cases hr2 : rr = o2
                · rw [hr2] at r2 hbt hbn hbz
                  have hwv : wB o1 o2 o2 = -1 := by unfold wB; rw [if_neg (fun h => HOO.out h.symm), if_pos rfl]; rfl
                  rw [hwv] at hbt hbn hbz
                  have q1' : (o2 == o1) = false := by simp; exact fun h => HOO.out h.symm
                  have q2' : ¬ o2 = o1 := fun h => HOO.out h.symm
                  obtain ⟨k', hk'⟩ : ∃ k', k + -1 = k' := ⟨_, rfl⟩
                  have hk2 : k - 1 = k' := by omega
                  rw [hk'] at hbt hbn hbz
                  have HKB : Hid (0 ≤ k' ∧ k' ≤ ((i + 1 : Nat) : Int)) := by have := HK.out; show _ ∧ _; omega
                  have w0 : IntKind.i64.wrap k' = k' := by have h3 := HKB.out; have h4 := HI.out; rw [IntKind.wrap_i64]; omega
                  have f0 : ¬ k' < 0 := by omega
                  have f1 : decide (k' < 0) = false := by simp; omega
                  have HBT := Lib.hid hbt
                  clear hbt hbn hwv
                  by_cases hz0 : k' = 0
                  · have z0 : (k' == 0) = true := by simp [hz0]
                    have heq := hbz hz0
                    simp only [Prod.mk.injEq] at heq
                    obtain ⟨rfl, rfl⟩ := heq
                    clear hbz hz0
                    go_upto_region 16 with fail
                    rw [HW6.out, HSQ.out]
                    go_wp2_with (first
                      | (go_at_call 13; have _t := tkA; refine (HAA.out _).mono ?_; rintro e w7 ⟨rfl, hb7⟩; have hs7 := HS6.out.below hb7; obtain ⟨x0, x1, -, -⟩ := row2 hs7.2.1; obtain ⟨y0, y1, -, -⟩ := row2 hs7.2.2.1; obtain ⟨z2, z1, -, -⟩ := row2 hs7.2.2.2; have hn7 := HN6.out.keep (hb7.block _ HN6.out.lt); obtain ⟨u0, u1, -, -⟩ := row2 hn7; simp only at u0 u1; have l0 := (hb7.cell (p := ⟨ba, off + q1, none⟩) (by have h3 := HS6.out.1.size; show ba < _; omega)).trans l0; have HS7 := Lib.hid hs7; have HN7 := Lib.hid hn7; have HB7 : Hid (Below wP.heap.size wP w7) := btr HB6.out hb7; clear hs7 hn7 hb7; clear tkA _t)
                      | (go_at_call 13; have _t := tkB; refine (HAB.out _).mono ?_; rintro e w8 ⟨rfl, hb8⟩; have hs8 := HS7.out.below hb8; obtain ⟨x0, x1, -, -⟩ := row2 hs8.2.1; obtain ⟨y0, y1, -, -⟩ := row2 hs8.2.2.1; obtain ⟨z2, z1, -, -⟩ := row2 hs8.2.2.2; have hn8 := HN7.out.keep (hb8.block _ HN7.out.lt); obtain ⟨u0, u1, -, -⟩ := row2 hn8; simp only at u0 u1; have l0 := (hb8.cell (p := ⟨ba, off + q1, none⟩) (by have h3 := HS7.out.1.size; show ba < _; omega)).trans l0; have HS8 := Lib.hid hs8; have HN8 := Lib.hid hn8; have HB8 : Hid (Below wP.heap.size wP w8) := btr HB7.out hb8; clear hs8 hn8 hb8; clear tkB _t))
                    have r2 : w8.cell? ⟨rb, ro + q2, none⟩ = some (.int .i32 o2) := (HBW.out _ HS8.out.1).trans r2
                    go_quiet (fail)
                    go_wp2_with fail
                    go_quiet (fail)
                    go_wp2_with fail
                    go_roundw
                    case rel => exact ⟨k', i + 1, rfl, by go_num, by have := HI.out; omega, HKB.out, HBT.out, by first | exact bdrewN (bdrewN HB8.out _) _ | exact bdrewN HB8.out _⟩
                    case measure => have := HI.out; simp [intOf]; omega
                  · have z0 : (k' == 0) = false := by simp [hz0]
                    clear hbz hz0
                    go_upto_region 16 with fail
                    rw [HW6.out, HSQ.out]
                    go_wp2_with (first
                      | (go_at_call 13; have _t := tkA; refine (HAA.out _).mono ?_; rintro e w7 ⟨rfl, hb7⟩; have hs7 := HS6.out.below hb7; obtain ⟨x0, x1, -, -⟩ := row2 hs7.2.1; obtain ⟨y0, y1, -, -⟩ := row2 hs7.2.2.1; obtain ⟨z2, z1, -, -⟩ := row2 hs7.2.2.2; have hn7 := HN6.out.keep (hb7.block _ HN6.out.lt); obtain ⟨u0, u1, -, -⟩ := row2 hn7; simp only at u0 u1; have l0 := (hb7.cell (p := ⟨ba, off + q1, none⟩) (by have h3 := HS6.out.1.size; show ba < _; omega)).trans l0; have HS7 := Lib.hid hs7; have HN7 := Lib.hid hn7; have HB7 : Hid (Below wP.heap.size wP w7) := btr HB6.out hb7; clear hs7 hn7 hb7; clear tkA _t)
                      | (go_at_call 13; have _t := tkB; refine (HAB.out _).mono ?_; rintro e w8 ⟨rfl, hb8⟩; have hs8 := HS7.out.below hb8; obtain ⟨x0, x1, -, -⟩ := row2 hs8.2.1; obtain ⟨y0, y1, -, -⟩ := row2 hs8.2.2.1; obtain ⟨z2, z1, -, -⟩ := row2 hs8.2.2.2; have hn8 := HN7.out.keep (hb8.block _ HN7.out.lt); obtain ⟨u0, u1, -, -⟩ := row2 hn8; simp only at u0 u1; have l0 := (hb8.cell (p := ⟨ba, off + q1, none⟩) (by have h3 := HS7.out.1.size; show ba < _; omega)).trans l0; have HS8 := Lib.hid hs8; have HN8 := Lib.hid hn8; have HB8 : Hid (Below wP.heap.size wP w8) := btr HB7.out hb8; clear hs8 hn8 hb8; clear tkB _t))
                    have r2 : w8.cell? ⟨rb, ro + q2, none⟩ = some (.int .i32 o2) := (HBW.out _ HS8.out.1).trans r2
                    go_quiet (fail)
                    go_wp2_with fail
                    go_quiet (fail)
                    go_wp2_with fail
                    go_roundw
                    case rel => exact ⟨k', i + 1, rfl, by go_num, by have := HI.out; omega, HKB.out, HBT.out, by first | exact bdrewN (bdrewN HB8.out _) _ | exact bdrewN HB8.out _⟩
                    case measure => have := HI.out; simp [intOf]; omega
                · skip
                  have hwv : wB o1 o2 rr = 0 := by unfold wB; rw [if_neg hr1, if_neg hr2]; rfl
                  rw [hwv] at hbt hbn hbz
                  have q1' : (rr == o1) = false := by simp [hr1]
                  have q2' : (rr == o2) = false := by simp [hr2]
                  rw [Int.add_zero] at hbt hbn hbz
                  have HKB : Hid (0 ≤ k ∧ k ≤ ((i + 1 : Nat) : Int)) := by have := HK.out; show _ ∧ _; omega
                  have w0 : IntKind.i64.wrap k = k := by have h3 := HKB.out; have h4 := HI.out; rw [IntKind.wrap_i64]; omega
                  have f0 : ¬ k < 0 := by omega
                  have f1 : decide (k < 0) = false := by simp; omega
                  have HBT := Lib.hid hbt
                  clear hbt hbn hwv
                  by_cases hz0 : k = 0
                  · have z0 : (k == 0) = true := by simp [hz0]
                    have heq := hbz hz0
                    simp only [Prod.mk.injEq] at heq
                    obtain ⟨rfl, rfl⟩ := heq
                    clear hbz hz0
                    go_upto_region 16 with fail
                    rw [HW6.out, HSQ.out]
                    go_wp2_with (first
                      | (go_at_call 13; have _t := tkA; refine (HAA.out _).mono ?_; rintro e w7 ⟨rfl, hb7⟩; have hs7 := HS6.out.below hb7; obtain ⟨x0, x1, -, -⟩ := row2 hs7.2.1; obtain ⟨y0, y1, -, -⟩ := row2 hs7.2.2.1; obtain ⟨z2, z1, -, -⟩ := row2 hs7.2.2.2; have hn7 := HN6.out.keep (hb7.block _ HN6.out.lt); obtain ⟨u0, u1, -, -⟩ := row2 hn7; simp only at u0 u1; have l0 := (hb7.cell (p := ⟨ba, off + q1, none⟩) (by have h3 := HS6.out.1.size; show ba < _; omega)).trans l0; have HS7 := Lib.hid hs7; have HN7 := Lib.hid hn7; have HB7 : Hid (Below wP.heap.size wP w7) := btr HB6.out hb7; clear hs7 hn7 hb7; clear tkA _t)
                      | (go_at_call 13; have _t := tkB; refine (HAB.out _).mono ?_; rintro e w8 ⟨rfl, hb8⟩; have hs8 := HS7.out.below hb8; obtain ⟨x0, x1, -, -⟩ := row2 hs8.2.1; obtain ⟨y0, y1, -, -⟩ := row2 hs8.2.2.1; obtain ⟨z2, z1, -, -⟩ := row2 hs8.2.2.2; have hn8 := HN7.out.keep (hb8.block _ HN7.out.lt); obtain ⟨u0, u1, -, -⟩ := row2 hn8; simp only at u0 u1; have l0 := (hb8.cell (p := ⟨ba, off + q1, none⟩) (by have h3 := HS7.out.1.size; show ba < _; omega)).trans l0; have HS8 := Lib.hid hs8; have HN8 := Lib.hid hn8; have HB8 : Hid (Below wP.heap.size wP w8) := btr HB7.out hb8; clear hs8 hn8 hb8; clear tkB _t))
                    have r2 : w8.cell? ⟨rb, ro + q2, none⟩ = some (.int .i32 rr) := (HBW.out _ HS8.out.1).trans r2
                    go_quiet (fail)
                    go_wp2_with fail
                    go_quiet (fail)
                    go_wp2_with fail
                    go_roundw
                    case rel => exact ⟨k, i + 1, rfl, by go_num, by have := HI.out; omega, HKB.out, HBT.out, by first | exact bdrewN (bdrewN HB8.out _) _ | exact bdrewN HB8.out _⟩
                    case measure => have := HI.out; simp [intOf]; omega
                  · have z0 : (k == 0) = false := by simp [hz0]
                    clear hbz hz0
                    go_upto_region 16 with fail
                    rw [HW6.out, HSQ.out]
                    go_wp2_with (first
                      | (go_at_call 13; have _t := tkA; refine (HAA.out _).mono ?_; rintro e w7 ⟨rfl, hb7⟩; have hs7 := HS6.out.below hb7; obtain ⟨x0, x1, -, -⟩ := row2 hs7.2.1; obtain ⟨y0, y1, -, -⟩ := row2 hs7.2.2.1; obtain ⟨z2, z1, -, -⟩ := row2 hs7.2.2.2; have hn7 := HN6.out.keep (hb7.block _ HN6.out.lt); obtain ⟨u0, u1, -, -⟩ := row2 hn7; simp only at u0 u1; have l0 := (hb7.cell (p := ⟨ba, off + q1, none⟩) (by have h3 := HS6.out.1.size; show ba < _; omega)).trans l0; have HS7 := Lib.hid hs7; have HN7 := Lib.hid hn7; have HB7 : Hid (Below wP.heap.size wP w7) := btr HB6.out hb7; clear hs7 hn7 hb7; clear tkA _t)
                      | (go_at_call 13; have _t := tkB; refine (HAB.out _).mono ?_; rintro e w8 ⟨rfl, hb8⟩; have hs8 := HS7.out.below hb8; obtain ⟨x0, x1, -, -⟩ := row2 hs8.2.1; obtain ⟨y0, y1, -, -⟩ := row2 hs8.2.2.1; obtain ⟨z2, z1, -, -⟩ := row2 hs8.2.2.2; have hn8 := HN7.out.keep (hb8.block _ HN7.out.lt); obtain ⟨u0, u1, -, -⟩ := row2 hn8; simp only at u0 u1; have l0 := (hb8.cell (p := ⟨ba, off + q1, none⟩) (by have h3 := HS7.out.1.size; show ba < _; omega)).trans l0; have HS8 := Lib.hid hs8; have HN8 := Lib.hid hn8; have HB8 : Hid (Below wP.heap.size wP w8) := btr HB7.out hb8; clear hs8 hn8 hb8; clear tkB _t))
                    have r2 : w8.cell? ⟨rb, ro + q2, none⟩ = some (.int .i32 rr) := (HBW.out _ HS8.out.1).trans r2
                    go_quiet (fail)
                    go_wp2_with fail
                    go_quiet (fail)
                    go_wp2_with fail
                    go_roundw
                    case rel => exact ⟨k, i + 1, rfl, by go_num, by have := HI.out; omega, HKB.out, HBT.out, by first | exact bdrewN (bdrewN HB8.out _) _ | exact bdrewN HB8.out _⟩
                    case measure => have := HI.out; simp [intOf]; omega
        · have hk0 := HBI.out.last (by rw [HP.out.len]; omega)
          have g0 : ¬ (i : Int) < (np : Int) := by omega
          have g1 : decide ((i : Int) < (np : Int)) = false := by simp; omega
          have z1 : (k == 0) = true := by simp [hk0]
          have HBE : Hid (Below W.heap.size W wr) := btr HSP.out.1 HB.out
          clear hk0 hi
          go_wp2_with (go_at_call 11; refine (HAW.out _ HBE.out).mono ?_; rintro e w9 ⟨rfl, hb9⟩)
          go_ret
          exact ⟨rfl, btr HBE.out hb9⟩
end Go.Proofs.YthlhgkeodaifcaaDoor.U
