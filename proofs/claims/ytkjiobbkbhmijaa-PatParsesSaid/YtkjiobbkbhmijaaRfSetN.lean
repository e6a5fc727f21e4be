/-
  The document's reader: a set without ^.
-/
import Derived.Test.YtkjiobbkbhmijaaRfSet
namespace Go.Proofs.Ytkjiobbkbhmijaa.U
open Go.RowKit
set_option linter.unusedVariables false
set_option linter.unusedSimpArgs false
set_option maxRecDepth 100000

section
attribute [local go_sem ↓] appS_eq

set_option maxHeartbeats 4000000 in
theorem rset_no (br : Nat) (p l : List Int) (n o : Nat) (w : World) (h : RfN w br p (91 :: l) n o) (hnt : pre [94] l = false) :
    Calls Try.prog 36 #[.pointer (some ⟨br, 0, none⟩)] w (RfAns w br p o (setN l n)) := by
  have hbr := h.lt
  obtain ⟨w1, hw1, hb1, hg1⟩ := res7 w
  obtain ⟨S, hS⟩ : ∃ S, w1.heap.size = S := ⟨_, rfl⟩
  obtain ⟨w2, hw2⟩ : ∃ w2, w1.alloc (.cells #[.int .i64 3, .int .i32 0, .slice none 0 0, .bool false, .int .i64 0, .int .i64 0, .slice none 0 0] 26) = w2 := ⟨_, rfl⟩
  have hb2 : Below w1.heap.size w1 w2 := by rw [← hw2]; exact bal _ _
  have hg2 : w2.heap[S]? = some (.cells #[.int .i64 3, .int .i32 0, .slice none 0 0, .bool false, .int .i64 0, .int .i64 0, .slice none 0 0] 26 (0, 0)) := by rw [← hS, ← hw2]; exact heap_alloc_new w1 _
  have hwS : w.heap.size < S := by rw [← hS]; exact heap_lt hg1
  have hr1 := h.below hb1
  obtain ⟨i, hs, hl, hi, hn, hp, ho⟩ := hr1
  obtain ⟨a, cap, hlook⟩ := hs.look
  obtain ⟨e0, e1, e2, e3, e4, fz, hr, -⟩ := hlook (fun _ => False) w1 (Fr.refl _ _) (fun _ h => h.elim)
  obtain ⟨hiq, -, hl1⟩ := drop_cons hl
  obtain ⟨b, off, rfl, -, -⟩ := hr.at_ hiq
  obtain ⟨q, hq⟩ : ∃ q, p.length = q := ⟨_, rfl⟩
  obtain ⟨i1, hi1⟩ : ∃ i1, i + 1 = i1 := ⟨_, rfl⟩
  rw [hi1] at hl1
  obtain ⟨L, hL⟩ : ∃ L, l = L := ⟨_, rfl⟩
  have hLd : L = p.drop i1 := by rw [← hL, hl1]
  have hset : setR l = setF false (items (L.length + 1) [] L) := by
    unfold setR
    rw [hnt, ← hL]
    rfl
  obtain ⟨r0, hr0⟩ : ∃ r0, items (L.length + 1) [] L = r0 := ⟨_, rfl⟩
  rw [hr0] at hset
  have HRES := Lib.hid (setN_F (n := n) hset)
  obtain ⟨R0, hR0⟩ : ∃ R0, setN l n = R0 := ⟨_, rfl⟩
  rw [hR0] at HRES ⊢
  have HR0 := Lib.hid hr0
  have HL := Lib.hid hLd
  -- whatever is written from S on, the pattern and the reader stay
  have HC : Hid (∀ W, Fr (fun k => S ≤ k) w1 W → W.cell? ⟨br, 0, none⟩ = some (.slice (some ⟨b, off, none⟩) q cap) ∧ W.cell? ⟨br, 1, none⟩ = some (.int .i64 (i : Nat)) ∧ W.frozen? ⟨br, 1, none⟩ = false ∧ RfS W br p i n o 0) := by
    intro W hW
    obtain ⟨f0, f1, f2, f3, f4, fz', hr', hs'⟩ := hlook _ W hW (fun k hk => by omega)
    rw [hq] at f0
    exact ⟨f0, f1, fz' 1, hs'⟩
  have HP : Hid (∀ W, Fr (fun k => S ≤ k) w1 W → ∀ j, j < q → ∃ c, p.getD j 0 = c ∧ W.cell? ⟨b, off + j, none⟩ = some (.int .i32 c) ∧ -2147483648 ≤ c ∧ c ≤ 2147483647) := by
    intro W hW j hj
    obtain ⟨f0, f1, f2, f3, f4, fz', hr', hs'⟩ := hlook _ W hW (fun k hk => by omega)
    obtain ⟨b', off', ea, hbl, hc⟩ := hr'.at_ (i := j) (by omega)
    cases ea
    exact ⟨_, rfl, hc, hr'.i32 j⟩
  have HGR : Hid (∀ W, Fr (fun k => k = br ∨ S ≤ k) w1 W → W.heap[w.heap.size]? = some (.cells #[.int .i64 0, .int .i32 0, .slice none 0 0, .bool false, .int .i64 0, .int .i64 0, .slice none 0 0] 26 (0, 0))) := fun W hW => (hW.block _ (heap_lt hg1) (fun e => by omega)).trans hg1
  have HIS : Hid (Calls Try.prog 26 #[.pointer (some ⟨br, 0, none⟩), .int .i64 (i1 : Nat), .string ⟨#[94]⟩] w2 fun e w' => e = .returned (.bool false) ∧ Below w2.heap.size w2 w') := by
    have h1 := is_94 br p i n o 0 i1 w2 (hs.fr (Fr.of_below (fun _ => False) hb2) (fun _ h => h.elim)) (by omega)
    rw [← hl1, hnt] at h1
    exact h1
  have HSN : Hid (∀ w3, Below w2.heap.size w2 w3 → ∃ w4, w3 = w4 ∧ w3.cell? ⟨S, 3, none⟩ = some (.bool false) ∧ w3.frozen? ⟨S, 3, none⟩ = false ∧ Hid (Sf w1 w4 S false [])) := by
    intro w3 h3
    have g3 := (h3.block S (heap_lt hg2)).trans hg2
    have hf3 : Fr (fun k => S ≤ k) w1 w3 := (Fr.of_below _ hb2).trans (Fr.of_below _ h3) (fun _ _ h => h)
    refine ⟨_, rfl, by rw [cell_row g3]; rfl, frozen_row g3 3, none, 0, g3, World.ownsRow_nil _ _ _ _, hf3⟩
  have HB1 := Lib.hid hb1
  have HW1 := Lib.hid hw1
  have HW2 := Lib.hid hw2
  have HSZ := Lib.hid hS
  have HQ := Lib.hid hq
  have e1' := (hb2.cell (p := ⟨br, 1, none⟩) (by rw [hS]; show br < S; omega)).trans e1
  have k1 : (i : Int) + 1 = (i1 : Int) := by omega

  obtain ⟨j0, hj0⟩ : ∃ j0, i1 + 1 = j0 := ⟨_, rfl⟩
  have k3 : (i1 : Int) + 1 = (j0 : Int) := by omega
  have hiq2 : i < q := by omega
  have hpq : q ≤ 1000000 := by omega
  have hi1q : i1 ≤ q := by omega
  have hi11 : i1 ≤ i1 := by omega
  have hnb : n ≤ i := hn
  have HJ0 := Lib.hid hj0
  have HI1 := Lib.hid hi1
  clear hw1 hb1 hg1 hw2 hb2 hg2 hlook hl hr hs fz h e0 e1 e2 e3 e4 hl1 hset hR0 hr0 hL hLd hnt hS hq hi hn hp hi1 hj0 hiq
  go_enter Try.func36, Try.ntmps36
  go_upto_region 1 with fail
  rw [HW1.out]
  go_upto_region 2 with fail
  rw [HW2.out, HSZ.out]
  go_upto_region 7 with (go_at_call 26; refine HIS.out.mono ?_; rintro e w3 ⟨rfl, hb3⟩; obtain ⟨w4, hw4, t3, y3, HS4⟩ := HSN.out w3 hb3; clear hb3)
  have hw4s := hw4.symm
  subst hw4s
  clear t3 y3
  obtain ⟨c0, c1, c1f, -⟩ := HC.out w4 (by obtain ⟨_, _, _, _, h⟩ := HS4.out; exact h)
  clear k1 k3 e1'
  go_loop [5] (fun v5 => ∃ e : Nat, v5 = .int .i64 (e : Nat) ∧ j0 ≤ e ∧ e ≤ q + 1 ∧ Hid (∀ j, j0 ≤ j → j < e → p.getD j 0 ≠ 93)) (fun v5 => q + 1 - (intOf v5).toNat)
  case atStart => exact ⟨j0, rfl, Nat.le_refl _, by have := HJ0.out; omega, fun j h1 h2 => by omega⟩
  case round =>
    obtain ⟨e, rfl, hje, heq, HE⟩ := hrel
    by_cases hlt : e < q
    rotate_left
    · -- no end
      have g1 : (q : Int) ≤ (e : Int) := by omega
      have g2 : ¬ (e : Int) < (q : Int) := by omega
      have HR9 : Hid (R0 = .error 10) := by
        show _ = _
        rw [HRES.out, ← HR0.out, items_dead]
        · rfl
        · intro x hx
          rw [HL.out, List.drop_drop] at hx
          obtain ⟨j, hj, rfl⟩ := List.mem_iff_getElem.1 hx
          rw [List.length_drop] at hj
          have := HE.out (i1 + 1 + j) (by have := HJ0.out; omega) (by have := HQ.out; omega)
          rw [List.getD_eq_getElem?_getD, List.getElem?_eq_getElem (by omega)] at this
          simpa using this
        · intro h; exact absurd rfl h
      have HFL : Hid (Calls Try.prog 38 #[.pointer (some ⟨br, 0, none⟩), .int .i64 10] w4 (FlAns w4 br p 10)) := fail_any br p _ _ _ w4 (HC.out w4 (by obtain ⟨_, _, _, _, h⟩ := HS4.out; exact h)).2.2.2 10
      have HK : Hid (∀ w5, Fr (· = br) w4 w5 → Fr (fun k => k = br ∨ S ≤ k) w1 w5) := by
        intro w5 h5
        obtain ⟨_, _, _, _, h⟩ := HS4.out
        exact (h.mono (fun k _ h => Or.inr h)).trans h5 (fun k _ h => Or.inl h)
      go_wp2_with (go_at_call 38; refine HFL.out.mono ?_; rintro e w5 ⟨rfl, H5⟩; have HG5 := Lib.hid (HGR.out w5 (HK.out w5 H5.out.2)); obtain ⟨a0, a1, a2, a3, a4, a5, a6, z0, z1, z2, z3, z4, z5, z6⟩ := row7 HG5.out)
      have HPUT := Lib.hid (put7 HG5.out (.int .i64 0) (.int .i32 0) (.slice none 0 0) (.bool false) (.int .i64 0) (.int .i64 0) (.slice none 0 0))
      refine bodyPost_ret (v := .agg #[.int .i64 0, .int .i32 0, .slice none 0 0, .bool false, .int .i64 0, .int .i64 0, .slice none 0 0]) ?_ rfl ?_
      · rw [results_cell1 rfl]
        go_simp
      · show RfAns w br p o R0 _ _
        rw [HR9.out]
        exact RfAns.err (RfAns.putX ((Fr.of_below _ HB1.out).trans (HK.out w5 H5.out.2) (fun k _ h => h.elim Or.inl (fun h => Or.inr (by omega)))) H5.out.1 hbr HPUT.out.2)
    obtain ⟨c, hc, hcell, hcb0, hcb1⟩ := HP.out w4 (by obtain ⟨_, _, _, _, h⟩ := HS4.out; exact h) e hlt
    have g2 : (e : Int) < (q : Int) := by omega
    by_cases h93 : c = 93
    rotate_left
    · have g3 : (c != 93) = true := by simpa using h93
      have HE2 : Hid (∀ j, j0 ≤ j → j < e + 1 → p.getD j 0 ≠ 93) := by
        intro j h1 h2
        by_cases hj : j = e
        · subst hj; rw [hc]; exact h93
        · exact HE.out j h1 (by omega)
      clear hc
      go_wp2
      go_round
      case rel => exact ⟨e + 1, by go_num, by omega, by omega, HE2.out⟩
      case measure => simp [intOf]; omega
    -- the end
    subst h93
    have H93 := Lib.hid hc
    have g3 : ((93 : Int) != 93) = false := by decide
    have g4 : ¬ (q : Int) ≤ (e : Int) := by omega
    clear hc
    go_wp2_with fail
    go_loopw [4] (fun v4 wr => ∃ (i : Nat) (acc : List (Int × Int)) (f : Nat), v4 = .int .i64 (i : Nat) ∧ i1 ≤ i ∧ i ≤ e ∧ Hid (Sf w1 wr S false acc ∧ acc.length ≤ i ∧ (acc = [] → i = i1) ∧ (acc ≠ [] → i1 < i) ∧ isDown acc = false ∧ e - i < f ∧ items f acc (p.drop i) = r0)) (fun v4 _ => e - (intOf v4).toNat)
    case atStart => exact ⟨i1, [], L.length + 1, rfl, Nat.le_refl _, by have := HJ0.out; omega, HS4.out, by simp, fun _ => rfl, fun h => absurd rfl h, rfl, by have h1 := HL.out; have h2 := HQ.out; rw [h1, List.length_drop]; omega, by rw [← HL.out]; exact HR0.out⟩
    case round =>
      obtain ⟨i2, acc, f, rfl, hii, hie, HR⟩ := hrel
      clear c0 c1 c1f hcell
      have HF : Hid (Fr (fun k => S ≤ k) w1 wr) := by obtain ⟨_, _, _, _, h⟩ := HR.out.1; exact h
      obtain ⟨c0, c1, c1f, -⟩ := HC.out wr HF.out
      obtain ⟨g, hg⟩ : ∃ g, f = g + 1 := ⟨f - 1, by have := HR.out.2.2.2.2.2.1; omega⟩
      subst hg
      by_cases hlt2 : i2 < e
      rotate_left
      · -- all items are there
        obtain rfl : i2 = e := by omega
        have hgn : ¬ (i2 : Int) < (i2 : Int) := by omega
        have hacc : acc ≠ [] := fun h => by have h1 := HR.out.2.2.1 h; have h2 := HJ0.out; omega
        have HR9 : Hid (R0 = .ok (.mk 3 0 acc false 0 0 [], p.drop (i2 + 1), n)) := by
          have h1 := HR.out.2.2.2.2.2.2
          rw [items_at (by have := HQ.out; omega) H93.out g acc hacc] at h1
          show _ = _
          rw [HRES.out, ← h1]
          simp only [setF, HR.out.2.2.2.2.1]
          rfl
        obtain ⟨e2, he2⟩ : ∃ e2, i2 + 1 = e2 := ⟨_, rfl⟩
        rw [he2] at HR9
        have k9 : (i2 : Int) + 1 = (e2 : Int) := by omega
        obtain ⟨w5, hw5⟩ : ∃ w5, wr.setCell ⟨br, 1, none⟩ (.int .i64 (e2 : Nat)) = w5 := ⟨_, rfl⟩
        have hT := (HC.out wr HF.out).2.2.2.setAt (e2 : Nat)
        rw [hw5] at hT
        have HN5 : Hid (RfN w5 br p (p.drop e2) n o ∧ Fr (· = br) wr w5) := ⟨⟨e2, hT.1, rfl, by have := HQ.out; omega, by have := HI1.out; omega, by have := HQ.out; omega, ho⟩, hT.2⟩
        have HG5 := Lib.hid (HGR.out w5 ((HF.out.mono (fun k _ h => Or.inr h)).trans hT.2 (fun k _ h => Or.inl h)))
        have HDONE := Lib.hid (fun (W : World) (hW : Fr (fun j => j = w.heap.size) w5 W) => HR.out.1.done (w := w) (W := W) HB1.out hwS hbr hT.2 hW)
        obtain ⟨a3, c3, hg3, -⟩ := HDONE.out w5 (Fr.refl _ _)
        obtain ⟨p0, p1, p2, p3, p4, p5, p6, -⟩ := row7 hg3
        obtain ⟨a0, a1, a2, a3', a4, a5, a6, z0, z1, z2, z3, z4, z5, z6⟩ := row7 HG5.out
        have HPUT := Lib.hid (put7 HG5.out (.int .i64 3) (.int .i32 0) (.slice a3 acc.length c3) (.bool false) (.int .i64 0) (.int .i64 0) (.slice none 0 0))
        have HFIN : Hid (∀ W, Fr (fun j => j = w.heap.size) w5 W → ReAt (New w W) W [.int .i64 3, .int .i32 0, .slice a3 acc.length c3, .bool false, .int .i64 0, .int .i64 0, .slice none 0 0] (.mk 3 0 acc false 0 0 []) ∧ RfN W br p (p.drop e2) n o ∧ Fr (· = br) w W) := by
          intro W hW
          obtain ⟨a4, c4, hg4, hre, hfr⟩ := HDONE.out W hW
          rw [hg3] at hg4
          simp only [Option.some.injEq, Obj.cells.injEq, Array.mk.injEq, List.cons.injEq, Value.slice.injEq, true_and, and_true] at hg4
          obtain ⟨rfl, rfl⟩ := hg4
          exact ⟨hre, HN5.out.1.fr hW (fun k e => by omega), hfr⟩
        have HW5 := Lib.hid hw5
        clear hw5 hT hg3 HDONE hacc he2
        go_upto_region 20 with fail
        rw [HW5.out]
        go_wp2
        refine bodyPost_ret (v := .agg #[.int .i64 3, .int .i32 0, .slice a3 acc.length c3, .bool false, .int .i64 0, .int .i64 0, .slice none 0 0]) ?_ rfl ?_
        · rw [results_cell1 rfl]
          go_simp
        · show RfAns w br p o R0 _ _
          rw [HR9.out]
          exact RfAns.ok (HFIN.out _ HPUT.out.2)
      have hgl : (i2 : Int) < (e : Int) := by omega
      obtain ⟨x, hx, hxc, hxb0, hxb1⟩ := HP.out wr HF.out i2 (by omega)
      obtain ⟨m, hm⟩ : ∃ m, acc.length = m := ⟨_, rfl⟩
      have hmb : m ≤ 1000000 := by have := HR.out.2.1; omega
      have HNO : Hid (∀ j, i2 + 1 ≤ j → j < e → p.getD j 0 ≠ 93) := fun j h1 h2 => HE.out j (by have := HJ0.out; omega) h2
      have HA : Hid (acc ≠ [] → p.getD i2 0 ≠ 93) := fun h => HE.out i2 (by have := HR.out.2.2.2.1 h; have := HJ0.out; omega) hlt2
      have HGO : Hid (items (g + 1) acc (p.drop i2) = if (decide (i2 + 2 < e) && (p.getD (i2 + 1) 0 == 45)) = true then items g (acc ++ [(p.getD i2 0, p.getD (i2 + 2) 0)]) (p.drop (i2 + 3)) else items g (acc ++ [(p.getD i2 0, p.getD i2 0)]) (p.drop (i2 + 1))) := items_go hlt2 (by have := HQ.out; omega) H93.out HNO.out g acc HA.out
      have w1S : S ≤ w1.heap.size := by have := HSZ.out; omega
      have hw2 : IntKind.i64.wrap ((i2 : Int) + 2) = (i2 : Int) + 2 := by rw [IntKind.wrap_i64]; omega
      have hi20 : (0 : Int) ≤ (i2 : Int) + 2 := by omega
      have hi2t : ((i2 : Int) + 2).toNat = i2 + 2 := by omega
      have hi21 : ((i2 : Int) + 1).toNat = i2 + 1 := by omega
      have hgq : (i2 : Int) < (q : Int) := by omega
      have HW1S := Lib.hid w1S
      have HLO := Lib.hid hii
      have HM := Lib.hid hm
      clear w1S hm hw2 hi2t hi21
      by_cases hr1 : i2 + 2 < e
      · obtain ⟨y, hy, hyc, hyb0, hyb1⟩ := HP.out wr HF.out (i2 + 1) (by omega)
        have HX := Lib.hid hx
        have gr : (i2 : Int) + 2 < (e : Int) := by omega
        have gq1 : (i2 : Int) + 1 < (q : Int) := by omega
        have gq2 : (i2 : Int) + 2 < (q : Int) := by omega
        by_cases h45 : y = 45
        · subst h45
          obtain ⟨z, hz, hzc, hzb0, hzb1⟩ := HP.out wr HF.out (i2 + 2) (by omega)
          have HST : Hid (items (g + 1) acc (p.drop i2) = items g (acc ++ [(x, z)]) (p.drop (i2 + 3))) := by
            show _ = _
            rw [HGO.out, hy, hz, HX.out]
            have : decide (i2 + 2 < e) = true := by simpa using hr1
            rw [this]
            rfl
          have HZ := Lib.hid hz
          clear hx hy hz
          by_cases hzx : z < x
          · -- a range that goes down
            have HR9 : Hid (R0 = .error 5) := by
              have h1 := HR.out.2.2.2.2.2.2
              rw [HST.out] at h1
              obtain ⟨st, h2⟩ := items_ok (by have := HQ.out; omega) H93.out g (acc ++ [(x, z)]) (i2 + 3) (by omega) (fun e => by simp at e) (fun j hj hje => HNO.out j (by omega) hje) (fun _ hi => HNO.out (i2 + 3) (by omega) hi) (by have := HR.out.2.2.2.2.2.1; omega)
              rw [h2] at h1
              show _ = _
              rw [HRES.out, ← h1]
              have hd : isDown (acc ++ [(x, z)] ++ st) = true := by
                rw [isDown_app, isDown_app]
                simp [isDown, hzx]
              simp only [setF, hd, if_true]
            have HFL : Hid (∀ W, Below wr.heap.size wr W → Calls Try.prog 38 #[.pointer (some ⟨br, 0, none⟩), .int .i64 5] W (FlAns W br p 5)) := fun W hW => fail_any br p _ _ _ W ((HC.out wr HF.out).2.2.2.fr (Fr.of_below (fun _ => False) hW) (fun _ h => h.elim)) 5
            have HK : Hid (∀ w4 w5, Below wr.heap.size wr w4 → Fr (· = br) w4 w5 → Fr (fun k => k = br ∨ S ≤ k) w1 w5) := by
              intro w4 w5 h4 h5
              exact ((HF.out.mono (fun k _ h => Or.inr h)).trans (Fr.of_below (fun _ => False) h4) (fun _ _ h => h.elim)).trans h5 (fun k _ h => Or.inl h)
            have hw2 : IntKind.i64.wrap ((i2 : Int) + 2) = (i2 : Int) + 2 := by rw [IntKind.wrap_i64]; omega
            have hi2t : ((i2 : Int) + 2).toNat = i2 + 2 := by omega
            go_wp2_with fail
            go_quiet (fail)
            clear hw2 hi2t
            obtain ⟨wv, hwv⟩ : ∃ wv, wr.drewN nq = wv := ⟨_, rfl⟩
            have HWV : Hid (Below wr.heap.size wr wv) := by rw [← hwv]; exact bdrewN (Below.refl _ _) _
            rw [hwv]
            clear hwv
            go_wp2_with (go_at_call 38; refine (HFL.out _ HWV.out).mono ?_; rintro e w5 ⟨rfl, H5⟩; have HG5 := Lib.hid (HGR.out w5 (HK.out _ w5 HWV.out H5.out.2)); obtain ⟨a0, a1, a2, a3, a4, a5, a6, z0, z1, z2, z3, z4, z5, z6⟩ := row7 HG5.out)
            have HPUT := Lib.hid (put7 HG5.out (.int .i64 0) (.int .i32 0) (.slice none 0 0) (.bool false) (.int .i64 0) (.int .i64 0) (.slice none 0 0))
            refine bodyPost_ret (v := .agg #[.int .i64 0, .int .i32 0, .slice none 0 0, .bool false, .int .i64 0, .int .i64 0, .slice none 0 0]) ?_ rfl ?_
            · rw [results_cell1 rfl]
              go_simp
            · show RfAns w br p o R0 _ _
              rw [HR9.out]
              exact RfAns.err (RfAns.putX ((Fr.of_below _ HB1.out).trans (HK.out _ w5 HWV.out H5.out.2) (fun k _ h => h.elim Or.inl (fun h => Or.inr (by omega)))) H5.out.1 hbr HPUT.out.2)
          · have hw2 : IntKind.i64.wrap ((i2 : Int) + 2) = (i2 : Int) + 2 := by rw [IntKind.wrap_i64]; omega
            have hi2t : ((i2 : Int) + 2).toNat = i2 + 2 := by omega
            go_wp2_with fail
            go_quiet (fail)
            clear hw2 hi2t
            obtain ⟨wv, hwv⟩ : ∃ wv, wr.drewN nq = wv := ⟨_, rfl⟩
            have HWV : Hid (Below wr.heap.size wr wv) := by rw [← hwv]; exact bdrewN (Below.refl _ _) _
            rw [hwv]
            have HSV := Lib.hid (HR.out.1.below HWV.out)
            obtain ⟨av, cv, d2, a', c', w5, hrun, d5, f5, HSN5, HF5⟩ := HSV.out.app HW1S.out (by have := HM.out; omega) x z
            rw [HM.out] at d2 hrun d5 HSN5
            have HFV : Hid (Fr (fun k => S ≤ k) w1 wv) := by obtain ⟨_, _, _, _, h⟩ := HSV.out; exact h
            clear c0 c1 c1f hxc hyc hzc hwv
            obtain ⟨c0, c1, c1f, -⟩ := HC.out wv HFV.out
            obtain ⟨x', hx', hxc, -, -⟩ := HP.out wv HFV.out i2 (by omega)
            obtain ⟨z', hz', hzc, -, -⟩ := HP.out wv HFV.out (i2 + 2) (by omega)
            obtain rfl : x = x' := HX.out.symm.trans hx'
            obtain rfl : z = z' := HZ.out.symm.trans hz'
            clear hx' hz'
            have HRUN := Lib.hid hrun
            clear hrun
            have HN : Hid (Sf w1 (w5.setCell ⟨S, 2, none⟩ (.slice a' (m + 1) c')) S false (acc ++ [(x, z)]) ∧ (acc ++ [(x, z)]).length ≤ i2 + 3 ∧ (acc ++ [(x, z)] = [] → i2 + 3 = i1) ∧ (acc ++ [(x, z)] ≠ [] → i1 < i2 + 3) ∧ isDown (acc ++ [(x, z)]) = false ∧ e - (i2 + 3) < g ∧ items g (acc ++ [(x, z)]) (p.drop (i2 + 3)) = r0) := by
              obtain ⟨h1, h2, h3, h4, h5, h6, h7⟩ := HR.out
              refine ⟨HSN5.out, by rw [List.length_append]; simp; omega, fun h => by simp at h, fun _ => by omega, ?_, by omega, ?_⟩
              · rw [isDown_snoc, h5]; simpa using hzx
              · rw [← h7, HST.out]
            have k3 : (i2 : Int) + 3 = ((i2 + 3 : Nat) : Int) := by omega
            have K3 := Lib.hid k3
            have hw2 : IntKind.i64.wrap ((i2 : Int) + 2) = (i2 : Int) + 2 := by rw [IntKind.wrap_i64]; omega
            have hi2t : ((i2 : Int) + 2).toNat = i2 + 2 := by omega
            clear k3
            have d2a : (wv.alloc (.cells #[.int .i64 x, .int .i64 z] 48)).cell? ⟨S, 2, none⟩ = some (.slice av m cv) := ((bal wv _).cell (p := ⟨S, 2, none⟩) (by obtain ⟨_, _, h, _⟩ := HSV.out; exact heap_lt h)).trans d2
            have hwx : IntKind.i64.wrap x = x := by rw [IntKind.wrap_i64]; omega
            have hwz : IntKind.i64.wrap z = z := by rw [IntKind.wrap_i64]; omega
            go_wp2_with fail
            have hrun2 : ∀ ty, (appS #[23, 23] ty #[.slice av m cv, .slice (some ⟨wv.heap.size, 0, none⟩) 1 1]).run Try.prog (wv.alloc (.cells #[.int .i64 x, .int .i64 z] 48)).drew = .ok (.slice a' (m + 1) c') w5 := HRUN.out
            go_region
            all_goals
              clear hw2 hi2t hwx hwz hrun2
              go_wp2_with fail
              go_roundw
              case rel => exact ⟨i2 + 3, acc ++ [(x, z)], g, by go_num, by omega, by omega, HN⟩
              case measure => simp [intOf]; omega
        · have g45 : (y == 45) = false := by simpa using h45
          have HST : Hid (items (g + 1) acc (p.drop i2) = items g (acc ++ [(x, x)]) (p.drop (i2 + 1))) := by
            show _ = _
            rw [HGO.out, hy, HX.out, g45, Bool.and_false]
            rfl
          clear hy
          have HSV := HR.out.1
          obtain ⟨av, cv, d2, a', c', w5, hrun, d5, f5, HSN5, HF5⟩ := HSV.app HW1S.out (by have := HM.out; omega) x x
          rw [HM.out] at d2 hrun d5 HSN5
          have HRUN := Lib.hid hrun
          clear hrun
          have HN : Hid (Sf w1 (w5.setCell ⟨S, 2, none⟩ (.slice a' (m + 1) c')) S false (acc ++ [(x, x)]) ∧ (acc ++ [(x, x)]).length ≤ i2 + 1 ∧ (acc ++ [(x, x)] = [] → i2 + 1 = i1) ∧ (acc ++ [(x, x)] ≠ [] → i1 < i2 + 1) ∧ isDown (acc ++ [(x, x)]) = false ∧ e - (i2 + 1) < g ∧ items g (acc ++ [(x, x)]) (p.drop (i2 + 1)) = r0) := by
            obtain ⟨h1, h2, h3, h4, h5, h6, h7⟩ := HR.out
            refine ⟨HSN5.out, by rw [List.length_append]; simp; omega, fun h => by simp at h, fun _ => by omega, ?_, by omega, ?_⟩
            · rw [isDown_snoc, h5]; simp
            · rw [← h7, HST.out]
          clear HSV
          have d2a : (wr.alloc (.cells #[.int .i64 x, .int .i64 x] 48)).cell? ⟨S, 2, none⟩ = some (.slice av m cv) := ((bal wr _).cell (p := ⟨S, 2, none⟩) (by obtain ⟨_, _, h, _⟩ := HR.out.1; exact heap_lt h)).trans d2
          have hwx : IntKind.i64.wrap x = x := by rw [IntKind.wrap_i64]; omega
          go_wp2_with fail
          have hrun2 : ∀ ty, (appS #[23, 23] ty #[.slice av m cv, .slice (some ⟨wr.heap.size, 0, none⟩) 1 1]).run Try.prog (wr.alloc (.cells #[.int .i64 x, .int .i64 x] 48)).drew = .ok (.slice a' (m + 1) c') w5 := HRUN.out
          go_region
          all_goals
            clear hwx hrun2
            go_wp2_with fail
            go_roundw
            case rel => exact ⟨i2 + 1, acc ++ [(x, x)], g, by go_num, by omega, by omega, HN⟩
            case measure => simp [intOf]; omega
      · have HX := Lib.hid hx
        have gr : ¬ (i2 : Int) + 2 < (e : Int) := by omega
        have HST : Hid (items (g + 1) acc (p.drop i2) = items g (acc ++ [(x, x)]) (p.drop (i2 + 1))) := by
          show _ = _
          rw [HGO.out, hx]
          have : decide (i2 + 2 < e) = false := by simpa using hr1
          rw [this, Bool.false_and]
          rfl
        clear hx
        have HSV := HR.out.1
        obtain ⟨av, cv, d2, a', c', w5, hrun, d5, f5, HSN5, HF5⟩ := HSV.app HW1S.out (by have := HM.out; omega) x x
        rw [HM.out] at d2 hrun d5 HSN5
        have HRUN := Lib.hid hrun
        clear hrun
        have HN : Hid (Sf w1 (w5.setCell ⟨S, 2, none⟩ (.slice a' (m + 1) c')) S false (acc ++ [(x, x)]) ∧ (acc ++ [(x, x)]).length ≤ i2 + 1 ∧ (acc ++ [(x, x)] = [] → i2 + 1 = i1) ∧ (acc ++ [(x, x)] ≠ [] → i1 < i2 + 1) ∧ isDown (acc ++ [(x, x)]) = false ∧ e - (i2 + 1) < g ∧ items g (acc ++ [(x, x)]) (p.drop (i2 + 1)) = r0) := by
          obtain ⟨h1, h2, h3, h4, h5, h6, h7⟩ := HR.out
          refine ⟨HSN5.out, by rw [List.length_append]; simp; omega, fun h => by simp at h, fun _ => by omega, ?_, by omega, ?_⟩
          · rw [isDown_snoc, h5]; simp
          · rw [← h7, HST.out]
        clear HSV
        have d2a : (wr.alloc (.cells #[.int .i64 x, .int .i64 x] 48)).cell? ⟨S, 2, none⟩ = some (.slice av m cv) := ((bal wr _).cell (p := ⟨S, 2, none⟩) (by obtain ⟨_, _, h, _⟩ := HR.out.1; exact heap_lt h)).trans d2
        have hwx : IntKind.i64.wrap x = x := by rw [IntKind.wrap_i64]; omega
        go_wp2_with fail
        have hrun2 : ∀ ty, (appS #[23, 23] ty #[.slice av m cv, .slice (some ⟨wr.heap.size, 0, none⟩) 1 1]).run Try.prog (wr.alloc (.cells #[.int .i64 x, .int .i64 x] 48)).drew = .ok (.slice a' (m + 1) c') w5 := HRUN.out
        go_region
        all_goals
          clear hwx hrun2
          go_wp2_with fail
          go_roundw
          case rel => exact ⟨i2 + 1, acc ++ [(x, x)], g, by go_num, by omega, by omega, HN⟩
          case measure => simp [intOf]; omega
end
theorem rset_any (br : Nat) (p l : List Int) (n o : Nat) (w : World) (h : RfN w br p (91 :: l) n o) :
    Calls Try.prog 36 #[.pointer (some ⟨br, 0, none⟩)] w (RfAns w br p o (setN l n)) := by
  cases hb : pre [94] l with
  | true => exact rset_yes br p l n o w h hb
  | false => exact rset_no br p l n o w h hb
end Go.Proofs.Ytkjiobbkbhmijaa.U
