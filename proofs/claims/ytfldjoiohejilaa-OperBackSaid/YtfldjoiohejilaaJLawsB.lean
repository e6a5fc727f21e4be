/-
  The walk of OperBack.
-/
import Derived.Test.YtfldjoiohejilaaJLaws1
import Derived.Test.YtfldjoiohejilaaJBackP
namespace Go.Proofs.Ytfldjoiohejilaa.U
open Go.RowKit
set_option linter.unusedVariables false
set_option linter.unusedSimpArgs false
set_option maxRecDepth 100000

def LnC (b A B : Nat) (W : World) : Prop := W.cell? ⟨b, 0, none⟩ = some (.int .i64 (A : Nat)) ∧ W.cell? ⟨b, 1, none⟩ = some (.int .i64 0) ∧ W.cell? ⟨b, 2, none⟩ = some (.int .i64 (B : Nat)) ∧ W.cell? ⟨b, 3, none⟩ = some (.int .i64 0) ∧ W.cell? ⟨b, 4, none⟩ = some (.int .i64 1)
theorem lnC_of {b A B : Nat} {W : World} (h : W.heap[b]? = some (.cells #[.int .i64 (A : Nat), .int .i64 0, .int .i64 (B : Nat), .int .i64 0, .int .i64 1] 26 (0, 0))) : LnC b A B W :=
  ⟨cell_row h 0, cell_row h 1, cell_row h 2, cell_row h 3, cell_row h 4⟩
set_option maxHeartbeats 8000000 in
theorem operBack_wideP (HP : PasteK 22) (a : Option Addr) (n c : Nat) (L : List (List Int)) (x y : Int) (w : World) (h : RdL (fun k => k < w.heap.size) w a n c L) (hw : WideL L) (hx : (Lit.int .i64 x).wf = true) (hy : (Lit.int .i64 y).wf = true) :
    Calls Try.prog 10 #[.slice a n c, .agg #[.int .i64 x, .int .i64 y]] w fun e w' => e = .returned (.bool true) ∧ Below w.heap.size w w' := by
  obtain ⟨hx1, hx2⟩ := wf_i64b hx
  obtain ⟨hy1, hy2⟩ := wf_i64b hy
  obtain ⟨wb, hwb⟩ : ∃ wb, w.alloc (.cells #[.int .i64 x, .int .i64 y] 49) = wb := ⟨_, rfl⟩
  have hrow : wb.heap[w.heap.size]? = some (.cells #[.int .i64 x, .int .i64 y] 49 (0, 0)) := by rw [← hwb]; exact heap_alloc_new w _
  have hB : Below w.heap.size w wb := by rw [← hwb]; exact bal _ _
  obtain ⟨b, hbe⟩ : ∃ b, w.heap.size = b := ⟨_, rfl⟩
  rw [hbe] at hrow
  have hfit := fit_any _ a n c L wb (h.below hB) hw
  have hl := h.len
  have hbl := heap_lt hrow
  have HB := Lib.hid hB
  have HW := Lib.hid hwb
  have HBE := Lib.hid hbe
  have HPP := Lib.hid HP
  obtain ⟨c0, c1⟩ : wb.cell? ⟨b, 0, none⟩ = some (.int .i64 x) ∧ wb.cell? ⟨b, 1, none⟩ = some (.int .i64 y) := ⟨cell_row hrow 0, cell_row hrow 1⟩
  have HAW : Hid (∀ W, Hid (Below w.heap.size w W) → Calls Try.prog 17 #[] W fun e w' => e = .returned (.bool true) ∧ Hid (Below w.heap.size w w')) := by
    intro W hW
    refine (awake_any HPP.out W).mono ?_
    rintro e w' ⟨rfl, hb⟩
    exact ⟨rfl, btr hW.out hb⟩
  by_cases hF : fitL L = true
  · rw [hF] at hfit
    have HFIT : Hid (∀ W, W = wb → Calls Try.prog 11 #[.slice a n c] W fun e w' => e = .returned (.bool true) ∧ W = w') := by
      rintro W rfl
      exact hfit.mono fun e w' h => ⟨h.1, h.2.symm⟩
    obtain ⟨hs, hpl⟩ := fit_small hF
    by_cases hn0 : n = 0
    · subst hn0
      have H7 : Hid (Below w.heap.size w wb) := HB.out
      clear hs hpl hF hfit h hw hx hy hrow hB hwb hbe HP hl
      go_enter Try.func10, Try.ntmps10
      go_upto_region 1 with fail
      rw [HW.out, HBE.out]
      go_wp2_with (first
        | (go_at_call 11; (with_reducible refine (HFIT.out _ rfl).mono ?_); rintro e wq ⟨rfl, hwq⟩; subst hwq)
        | (go_at_call 17; (with_reducible refine (HAW.out _ H7).mono ?_); rintro e w8 ⟨rfl, H8⟩))
      go_ret
      exact ⟨rfl, H8.out⟩
    · have hcnt := size_count L
      obtain ⟨N1, hN1⟩ : ∃ N1, N1 + 1 = n := ⟨n - 1, by omega⟩
      have hn1 : (n : Int) - 1 = (N1 : Int) := by omega
      obtain ⟨x1, hx3⟩ : ∃ x1, min x (N1 : Int) = x1 := ⟨_, rfl⟩
      obtain ⟨A, hA⟩ : ∃ A : Nat, max 0 x1 = (A : Int) := ⟨(max 0 x1).toNat, by omega⟩
      obtain ⟨y1, hy3⟩ : ∃ y1, min y (N1 : Int) = y1 := ⟨_, rfl⟩
      obtain ⟨B, hBB⟩ : ∃ B : Nat, max (A : Int) y1 = (B : Int) := ⟨(max (A : Int) y1).toNat, by omega⟩
      have hAB : A ≤ B := by omega
      have hBn : B < L.length := by omega
      have hn6 : n ≤ 65536 := by omega
      obtain ⟨gm, hgm⟩ : ∃ gm, B + 1 - A = gm := ⟨_, rfl⟩
      have hBA : (B : Int) - (A : Int) = (gm : Int) - 1 := by omega
      obtain ⟨G, hG⟩ : ∃ G, (L.drop A).take gm = G := ⟨_, rfl⟩
      have hGl : G.length = gm := by rw [← hG]; simp; omega
      have htk := take_lines hAB hBn
      rw [hgm, hG] at htk
      have hGs : sizeN (lens G) ≤ 65536 := by
        have h1 : sizeN (lens L) = sizeN (lens (L.take A)) + sizeN (lens (L.drop A)) := by rw [← sizeN_append, ← lens_append, List.take_append_drop]
        have h2 : sizeN (lens (L.drop A)) = sizeN (lens ((L.drop A).take gm)) + sizeN (lens ((L.drop A).drop gm)) := by rw [← sizeN_append, ← lens_append, List.take_append_drop]
        rw [hG] at h2
        omega
      have hri : i64r (lnRgn A B) := by unfold i64r i64p i64b lnRgn; simp only; omega
      have hwf := lines_wf (rdl_wf h)
      obtain ⟨w1, hw1⟩ : ∃ w1, wb.alloc (.cells #[.int .i64 (A : Nat), .int .i64 0, .int .i64 (B : Nat), .int .i64 0, .int .i64 1] 26) = w1 := ⟨_, rfl⟩
      obtain ⟨rb, hrb⟩ : ∃ rb, wb.heap.size = rb := ⟨_, rfl⟩
      have hb1 : Below wb.heap.size wb w1 := by rw [← hw1]; exact bal _ _
      have hrow1 : w1.heap[rb]? = some (.cells #[.int .i64 (A : Nat), .int .i64 0, .int .i64 (B : Nat), .int .i64 0, .int .i64 1] 26 (0, 0)) := by rw [← hw1, ← hrb]; exact heap_alloc_new _ _
      have KS : Hid (∀ W, Below w1.heap.size w1 W → LnC rb A B W) := fun W hW => lnC_of (hbox hrow1 hW)
      have HL1 : Hid (∃ F, RdL F w1 a n c L) := ⟨_, h.below (btr hB hb1)⟩
      have HB1 : Hid (Below w.heap.size w w1) := btr hB hb1
      have HT : Hid (Calls Try.prog 13 #[.slice a n c, .agg #[.int .i64 (A : Nat), .int .i64 0, .int .i64 (B : Nat), .int .i64 0, .int .i64 1]] w1 fun e w' => ∃ ga gc, e = .returned (.tuple #[.agg #[.int .i64 1, .slice ga gm gc], .int .i64 0]) ∧ ∃ w3 gb, w'.alloc (.cells #[.int .i64 1, .slice ga gm gc] 30) = w3 ∧ w'.heap.size = gb ∧ LnC rb A B w3 ∧ Hid (Below w1.heap.size w1 w3 ∧ (∃ F, RdL F w3 ga gm gc G) ∧ w3.heap[gb]? = some (.cells #[.int .i64 1, .slice ga gm gc] 30 (0, 0)))) := by
        obtain ⟨F, hF⟩ := HL1.out
        refine (ktakeC F a n c L (lnRgn A B) w1 hF (by omega) hri).mono ?_
        rintro e w' ⟨ga, m, gc, rfl, hf, hb⟩
        rw [htk] at hf ⊢
        have hm := hf.len
        simp only at hm
        obtain rfl : m = gm := by omega
        have hb2 := btr hb (bal w' (.cells #[.int .i64 1, .slice ga m gc] 30))
        exact ⟨ga, gc, rfl, _, _, rfl, rfl, KS.out _ hb2, hb2, ⟨_, (hf.rdl (fun z hz => hwf z (List.mem_of_mem_drop (List.mem_of_mem_take (by rw [hG]; exact hz))))).below (bal _ _)⟩, heap_alloc_new _ _⟩
      obtain ⟨⟨M, ⟨q1, q2⟩, e0⟩, hR⟩ : ∃ R, cutR L (lnRgn A B) = R := ⟨_, rfl⟩
      have HC : Hid (∀ W ga gc gb, Hid (Below w1.heap.size w1 W ∧ (∃ F, RdL F W ga gm gc G) ∧ W.heap[gb]? = some (.cells #[.int .i64 1, .slice ga gm gc] 30 (0, 0))) → e0 = 0 → Calls Try.prog 18 #[.slice a n c, .agg #[.int .i64 (A : Nat), .int .i64 0, .int .i64 (B : Nat), .int .i64 0, .int .i64 1]] W fun e w' => ∃ ca cm cc, e = .returned (.tuple #[.slice ca cm cc, .agg #[.int .i64 (q1 : Nat), .int .i64 (q2 : Nat)], .int .i64 0]) ∧ ∃ w3 pb, w'.alloc (.cells #[.int .i64 (q1 : Nat), .int .i64 (q2 : Nat)] 24) = w3 ∧ w'.heap.size = pb ∧ (w3.cell? ⟨gb, 0, none⟩ = some (.int .i64 1) ∧ w3.cell? ⟨gb, 1, none⟩ = some (.slice ga gm gc)) ∧ PsC pb (q1 : Nat) (q2 : Nat) w3 ∧ Hid (Below w1.heap.size w1 w3 ∧ (∃ F, RdL F w3 ga gm gc G) ∧ (∃ F, RdL F w3 ca cm cc M))) := by
        rintro W ga gc gb hW rfl
        obtain ⟨hbW, ⟨F2, hg⟩, hgb⟩ := hW.out
        obtain ⟨F, hF⟩ := HL1.out
        refine (kcutK F a n c L (lnRgn A B) W (hF.below hbW) hs hri).mono ?_
        rintro e w' ⟨ca, cm, cc, rfl, hf, hb⟩
        rw [hR] at hf ⊢
        have hb2 := btr hb (bal w' (.cells #[.int .i64 (q1 : Nat), .int .i64 (q2 : Nat)] 24))
        have e1 := hbox hgb hb2
        exact ⟨ca, cm, cc, rfl, _, _, rfl, rfl, ⟨cell_row e1 0, cell_row e1 1⟩, psC_of (heap_alloc_new _ _), btr hbW hb2, ⟨_, hg.below hb2⟩, ⟨_, hf.below (bal _ _)⟩⟩
      have HGM : Hid (B + 1 - A = gm) := hgm
      have HGG : Hid ((L.drop A).take gm = G) := hG
      have HR := Lib.hid hR
      have HS := Lib.hid (And.intro hs hpl)
      have HAB := Lib.hid (And.intro hAB hBn)
      have HLN := Lib.hid hl
      have hgm6 : gm ≤ 65536 := by omega
      have hgm1 : (gm : Int) - 1 + 1 = (gm : Int) := by omega
      obtain ⟨d, hd⟩ : ∃ d : Nat, B - A = d := ⟨_, rfl⟩
      have hBA2 : (B : Int) - (A : Int) = (d : Int) := by omega
      have hdg : (d : Int) + 1 = (gm : Int) := by omega
      have hA6 : A ≤ 65536 := by omega
      have hB6 : B ≤ 65536 := by omega
      have HW1 := Lib.hid hw1
      have HRB := Lib.hid hrb
      obtain ⟨d0, d1, d2, d3, d4⟩ := KS.out w1 (Below.refl _ _)
      have hn0i : ¬ (n : Int) = 0 := by omega
      have HN1 := Lib.hid hN1
      have HGL := Lib.hid hGl
      have HGS := Lib.hid hGs
      by_cases hall : gm = n
      · have hca := cut_all hAB hBn (by omega)
        rw [hR] at hca
        simp only at hca
        obtain ⟨rfl, rfl⟩ := hca
        have HC1 : Hid (∀ W ga gc gb, Hid (Below w1.heap.size w1 W ∧ (∃ F, RdL F W ga gm gc G) ∧ W.heap[gb]? = some (.cells #[.int .i64 1, .slice ga gm gc] 30 (0, 0))) → Calls Try.prog 18 #[.slice a n c, .agg #[.int .i64 (A : Nat), .int .i64 0, .int .i64 (B : Nat), .int .i64 0, .int .i64 1]] W fun e w' => ∃ cb co cc, e = .returned (.tuple #[.slice (some ⟨cb, co, none⟩) 1 cc, .agg #[.int .i64 (q1 : Nat), .int .i64 (q2 : Nat)], .int .i64 0]) ∧ ∃ w3 pb, w'.alloc (.cells #[.int .i64 (q1 : Nat), .int .i64 (q2 : Nat)] 24) = w3 ∧ w'.heap.size = pb ∧ (w3.cell? ⟨gb, 0, none⟩ = some (.int .i64 1) ∧ w3.cell? ⟨gb, 1, none⟩ = some (.slice ga gm gc)) ∧ (∃ za zc, w3.cell? ⟨cb, co, none⟩ = some (.slice za 0 zc)) ∧ Hid (Below w.heap.size w w3)) := by
          intro W ga gc gb hW
          refine (HC.out W ga gc gb hW rfl).mono ?_
          rintro e w' ⟨ca, cm, cc, rfl, w3, pb, h1, h2, h3, h4, h5⟩
          obtain ⟨hbW, -, ⟨F, hf⟩⟩ := h5.out
          obtain ⟨cb, co, za, zc, rfl, hq, hc, hn⟩ := hf.hd
          simp only [List.length_nil, Nat.zero_add] at hn
          subst hn
          exact ⟨cb, co, cc, rfl, w3, pb, h1, h2, h3, ⟨za, zc, hc⟩, btr HB1.out hbW⟩
        clear HC HS HAB HGM HGG HR hs hpl hF hfit h hw hx hy hrow hB hwb hbe HP hl hcnt hN1 hAB hBn hgm hG hGl htk hGs hri hwf hw1 hrb hb1 hrow1 hR hBA hd hn0 HGS
        have hall1 : (gm : Int) = (n : Int) := by omega
        have HALL := Lib.hid hall
        subst hall
        clear hall1
        go_enter Try.func10, Try.ntmps10
        go_upto_region 1 with fail
        rw [HW.out, HBE.out]
        go_upto_region 6 with (go_at_call 11; (with_reducible refine (HFIT.out _ rfl).mono ?_); rintro e wq ⟨rfl, hwq⟩; subst hwq)
        rw [HW1.out, HRB.out]
        go_wp2_with (first
          | (go_at_call 13; (with_reducible refine HT.out.mono ?_); rintro e w2 ⟨ga, gc, rfl, w3, gb, hw3, hgb, ⟨d0, d1, d2, d3, d4⟩, H3⟩)
          | (go_at_call 18; (with_reducible refine (HC1.out _ _ _ _ H3).mono ?_); rintro e w4 ⟨cb, co, cc, rfl, w5, pb, hw5, hpb, ⟨g0, g1⟩, ⟨za, zc, hz⟩, H5⟩)
          | (go_at_call 17; (with_reducible refine (HAW.out _ H5).mono ?_); rintro e w8 ⟨rfl, H8⟩))
        go_ret
        exact ⟨rfl, H8.out⟩
      · obtain ⟨bh, hbh⟩ : ∃ bh, decide (B = L.length - 1) = bh := ⟨_, rfl⟩
        have hpb := paste_back hAB hBn (by omega) hs hpl
        rw [hgm, hG, hR, hbh] at hpb
        simp only at hpb
        have he0 : e0 = 0 := by
          have h1 := cut_lines hAB hBn (by omega)
          rw [hR] at h1
          injection h1 with _ h1
          injection h1
        have hMM : M = L.take A ++ L.drop (B + 1) ∧ q1 ≤ 65536 ∧ q2 ≤ 65536 := by
          have h1 := cut_lines hAB hBn (by omega)
          rw [hR] at h1
          injection h1 with h1 h2
          injection h2 with h2 h3
          injection h2 with h2 h4
          refine ⟨h1, by omega, ?_⟩
          rw [h4]
          refine Nat.le_trans (firstR_le _) ?_
          unfold lnL
          rw [List.getD_eq_getElem?_getD]
          cases hz : (L.take A ++ L.drop (B + 1))[min A ((L.take A ++ L.drop (B + 1)).length - 1)]? with
          | none => simp
          | some z =>
            have hzL : z ∈ L := by
              have := List.mem_of_getElem? hz
              rcases List.mem_append.1 this with h9 | h9
              · exact List.mem_of_mem_take h9
              · exact List.mem_of_mem_drop h9
            have := sizeN_mem (List.mem_map.2 ⟨z, hzL, rfl⟩ : List.length z ∈ List.map List.length L)
            unfold lens at hs
            simp only [Option.getD_some]
            omega
        obtain ⟨hM1, hq1, hq2⟩ := hMM
        have hMs : sizeN (lens M) ≤ 65536 ∧ plainL M := by
          constructor
          · rw [hM1, lens_append, sizeN_append]
            have h1 : sizeN (lens L) = sizeN (lens (L.take A)) + sizeN (lens (L.drop A)) := by rw [← sizeN_append, ← lens_append, List.take_append_drop]
            have h2 : sizeN (lens (L.drop A)) = sizeN (lens ((L.drop A).take gm)) + sizeN (lens ((L.drop A).drop gm)) := by rw [← sizeN_append, ← lens_append, List.take_append_drop]
            rw [List.drop_drop, show A + gm = B + 1 by omega] at h2
            omega
          · intro z hz
            rw [hM1] at hz
            rcases List.mem_append.1 hz with h9 | h9
            · exact hpl z (List.mem_of_mem_take h9)
            · exact hpl z (List.mem_of_mem_drop h9)
        subst he0
        have HPA : Hid (∀ W ca cm cc ga gc, Hid (Below w1.heap.size w1 W ∧ (∃ F, RdL F W ga gm gc G) ∧ (∃ F, RdL F W ca cm cc M)) → Calls Try.prog 22 #[.slice ca cm cc, .agg #[.int .i64 (q1 : Nat), .int .i64 (q2 : Nat)], .agg #[.int .i64 1, .slice ga gm gc], .bool bh, .int .i64 1] W fun e w' => ∃ ra rm rc r1 r2, e = .returned (.tuple #[.slice ra rm rc, .agg #[.int .i64 r1, .int .i64 r2], .int .i64 0]) ∧ ∃ w3 ob, w'.alloc (.cells #[.int .i64 r1, .int .i64 r2] 24) = w3 ∧ w'.heap.size = ob ∧ Hid (Below w1.heap.size w1 w3 ∧ (∃ F, RdL F w3 ra rm rc L))) := by
          intro W ca cm cc ga gc hW
          obtain ⟨hbW, ⟨F, hg⟩, ⟨F2, hf⟩⟩ := hW.out
          refine (HPP.out F2 F ca cm cc M ga gm gc G ⟨(q1 : Int), (q2 : Int)⟩ 1 bh 1 W hf hMs.1 hMs.2 hg hGs ⟨⟨by show _ ≤ (q1 : Int); omega, by show (q1 : Int) ≤ _; omega⟩, ⟨by show _ ≤ (q2 : Int); omega, by show (q2 : Int) ≤ _; omega⟩⟩ (by unfold i64b; decide) (by unfold i64b; decide)).mono ?_
          rintro e w' ⟨ra, rm, rc, rfl, hf2, hb⟩
          have h1 := hpb.1
          have h2 := hpb.2
          unfold upP at h1 h2
          simp only at h1 h2
          rw [h1] at hf2
          rw [h2]
          exact ⟨ra, rm, rc, _, _, rfl, _, _, rfl, rfl, btr hbW (btr hb (bal _ _)), ⟨_, hf2.below (bal _ _)⟩⟩
        have HSA : Hid (∀ W ra rm rc, Hid (Below w1.heap.size w1 W ∧ (∃ F, RdL F W ra rm rc L)) → Calls Try.prog 16 #[.slice ra rm rc, .slice a n c] W fun e w' => e = .returned (.bool true) ∧ Hid (Below w.heap.size w w')) := by
          intro W ra rm rc hW
          obtain ⟨hbW, ⟨F, hf⟩⟩ := hW.out
          obtain ⟨F2, hL⟩ := HL1.out
          refine (rsame_any F F2 ra a rm n rc c _ _ W hf (hL.below hbW)).mono ?_
          rintro e w' ⟨rfl, hb⟩
          exact ⟨by simp, btr HB1.out (btr hbW hb)⟩
        have HC1 := Lib.hid (fun W ga gc gb hW => HC.out W ga gc gb hW rfl)
        have hnall : ¬ (gm : Int) = (n : Int) := by omega
        have hbhc : (bh = true ∧ B = N1) ∨ (bh = false ∧ ¬ B = N1) := by
          rw [← hbh]
          by_cases e : B = N1
          · exact .inl ⟨by rw [decide_eq_true (by omega)], e⟩
          · exact .inr ⟨by rw [decide_eq_false (by omega)], e⟩
        clear HC HS HAB HGM HGG HR hs hpl hF hfit h hw hx hy hrow hB hwb hbe HP hl hcnt hN1 hAB hBn hgm hG hGl htk hGs hri hwf hw1 hrb hb1 hrow1 hR hBA hd hn0 HGS hM1 hMs hpb hbh
        rcases hbhc with ⟨rfl, rfl⟩ | ⟨rfl, hbn⟩
        · go_enter Try.func10, Try.ntmps10
          go_upto_region 1 with fail
          rw [HW.out, HBE.out]
          go_upto_region 6 with (go_at_call 11; (with_reducible refine (HFIT.out _ rfl).mono ?_); rintro e wq ⟨rfl, hwq⟩; subst hwq)
          rw [HW1.out, HRB.out]
          go_wp2_with (first
            | (go_at_call 13; (with_reducible refine HT.out.mono ?_); rintro e w2 ⟨ga, gc, rfl, w3, gb, hw3, hgb, ⟨d0, d1, d2, d3, d4⟩, H3⟩)
            | (go_at_call 18; (with_reducible refine (HC1.out _ _ _ _ H3).mono ?_); rintro e w4 ⟨ca, cm, cc, rfl, w5, pb, hw5, hpb, ⟨g0, g1⟩, ⟨p0, p1⟩, H5⟩)
            | (go_at_call 22; (with_reducible refine (HPA.out _ _ _ _ _ _ H5).mono ?_); rintro e w6 ⟨ra, rm, rc, r1, r2, rfl, w7, ob, hw7, hob, H7⟩)
            | (go_at_call 16; (with_reducible refine (HSA.out _ _ _ _ H7).mono ?_); rintro e w8 ⟨rfl, H8⟩)
            | (go_at_call 17; (with_reducible refine (HAW.out _ H8).mono ?_); rintro e w9 ⟨rfl, H9⟩))
          go_ret
          exact ⟨rfl, H9.out⟩
        · have hbn1 : ¬ (B : Int) = (N1 : Int) := by omega
          have hbn2 : ((B : Int) == (N1 : Int)) = false := by simpa using hbn1
          have hbn3 : (B == N1) = false := by simpa using hbn
          go_enter Try.func10, Try.ntmps10
          go_upto_region 1 with fail
          rw [HW.out, HBE.out]
          go_upto_region 6 with (go_at_call 11; (with_reducible refine (HFIT.out _ rfl).mono ?_); rintro e wq ⟨rfl, hwq⟩; subst hwq)
          rw [HW1.out, HRB.out]
          go_wp2_with (first
            | (go_at_call 13; (with_reducible refine HT.out.mono ?_); rintro e w2 ⟨ga, gc, rfl, w3, gb, hw3, hgb, ⟨d0, d1, d2, d3, d4⟩, H3⟩)
            | (go_at_call 18; (with_reducible refine (HC1.out _ _ _ _ H3).mono ?_); rintro e w4 ⟨ca, cm, cc, rfl, w5, pb, hw5, hpb, ⟨g0, g1⟩, ⟨p0, p1⟩, H5⟩)
            | (go_at_call 22; (with_reducible refine (HPA.out _ _ _ _ _ _ H5).mono ?_); rintro e w6 ⟨ra, rm, rc, r1, r2, rfl, w7, ob, hw7, hob, H7⟩)
            | (go_at_call 16; (with_reducible refine (HSA.out _ _ _ _ H7).mono ?_); rintro e w8 ⟨rfl, H8⟩)
            | (go_at_call 17; (with_reducible refine (HAW.out _ H8).mono ?_); rintro e w9 ⟨rfl, H9⟩))
          go_ret
          exact ⟨rfl, H9.out⟩
  · have hF2 : fitL L = false := by simpa using hF
    rw [hF2] at hfit
    have HFIT : Hid (∀ W, W = wb → Calls Try.prog 11 #[.slice a n c] W fun e w' => e = .returned (.bool false) ∧ W = w') := by
      rintro W rfl
      exact hfit.mono fun e w' h => ⟨h.1, h.2.symm⟩
    have H7 : Hid (Below w.heap.size w wb) := HB.out
    clear hF hF2 hfit h hw hx hy hrow hB hwb hbe HP hl
    go_enter Try.func10, Try.ntmps10
    go_upto_region 1 with fail
    rw [HW.out, HBE.out]
    go_wp2_with (first
      | (go_at_call 11; (with_reducible refine (HFIT.out _ rfl).mono ?_); rintro e wq ⟨rfl, hwq⟩; subst hwq)
      | (go_at_call 17; (with_reducible refine (HAW.out _ H7).mono ?_); rintro e w8 ⟨rfl, H8⟩))
    go_ret
    exact ⟨rfl, H8.out⟩
end Go.Proofs.Ytfldjoiohejilaa.U
