/-
  The document's between, Insert, Delete, Slice.
  The document's Insert.
  The document's Delete, Slice.
-/
import Derived.Test.YtndlebopfojjeaaTOpen
import Derived.Test.YtndlebopfojjeaaTRefP
namespace Go.Proofs.Ytndlebopfojjeaa.U
open Go.RowKit
set_option linter.unusedVariables false
set_option linter.unusedSimpArgs false
set_option maxRecDepth 100000

def AfX (P : Nat → Prop) (w : World) (bx : Nat) (L : List (List Int)) (w' : World) : Prop := RX (fun k => P k ∨ w.heap.size ≤ k) w' bx L ∧ Fr P w w'
theorem AfX.same {P : Nat → Prop} {w w' : World} {bx : Nat} {L : List (List Int)} (h : RX P w bx L) (hb : Below w.heap.size w w') : AfX P w bx L w' :=
  ⟨(h.below hb).mono (fun _ h => .inl h), Fr.of_below P hb⟩
theorem RX.put {P : Nat → Prop} {w W : World} {bx n c : Nat} {a : Option Addr} {L R : List (List Int)} (h : RX P w bx L) (hb : Below w.heap.size w W) (hr : RdL (fun k => w.heap.size ≤ k) W a n c R) :
    AfX P w bx R (W.setCell ⟨bx, 0, none⟩ (.slice a n c)) ∧ (∃ u, W.cell? ⟨bx, 0, none⟩ = some u) ∧ W.frozen? ⟨bx, 0, none⟩ = false ∧ bx < W.heap.size := by
  obtain ⟨ra, nr, rc, hbx, hrl, hPb⟩ := h
  have hbW := (hb.block bx (heap_lt hbx)).trans hbx
  have hbl := heap_lt hbx
  refine ⟨⟨⟨a, n, c, heap_set hbW 0 _, (hr.frF (G := fun k => k = bx) ((Fr.refl _ _).setCell _ _ (fun _ => rfl)) (fun k hk e => by omega)).mono (fun k hk => ⟨.inr hk, by omega⟩), .inl hPb⟩, (Fr.of_below P hb).setCell _ _ (fun _ => hPb)⟩, ⟨_, cell_row hbW 0⟩, frozen_row hbW 0, heap_lt hbW⟩
theorem RX.cell {P : Nat → Prop} {w : World} {bx : Nat} {L : List (List Int)} (h : RX P w bx L) : ∃ ra nr rc, RdL (fun k => P k ∧ k ≠ bx) w ra nr rc L ∧ ∀ W, Below w.heap.size w W → W.cell? ⟨bx, 0, none⟩ = some (.slice ra nr rc) ∧ bx < W.heap.size := by
  obtain ⟨ra, nr, rc, hbx, hrl, hPb⟩ := h
  refine ⟨ra, nr, rc, hrl, fun W hW => ?_⟩
  have := (hW.block bx (heap_lt hbx)).trans hbx
  exact ⟨cell_row this 0, heap_lt this⟩

def betX (L : List (List Int)) (i c j d : Int) : Int × Int × Int := if hasP L i c && hasP L j d then (if (offN L j.toNat d.toNat : Int) < offN L i.toNat c.toNat then (0, 0, 1) else (offN L i.toNat c.toNat, offN L j.toNat d.toNat, 0)) else (0, 0, 2)
theorem off_bound {L : List (List Int)} {i c : Int} (h : hasP L i c = true) : offN L i.toNat c.toNat ≤ (joinL L).length := by
  obtain ⟨k, d, x, rfl, rfl, hx, hd⟩ := hasP_iff.1 h
  exact off_le hx hd

set_option maxHeartbeats 4000000 in
theorem rbetween_any (P : Nat → Prop) (bx : Nat) (L : List (List Int)) (i c j d : Int) (w : World) (h : RX P w bx L) (hs : sizeN (lens L) ≤ 1048576) (hi : i64b i) (hc : i64b c) (hj : i64b j) (hd : i64b d) :
    Calls Try.prog 54 #[.pointer (some ⟨bx, 0, none⟩), .agg #[.int .i64 i, .int .i64 c], .agg #[.int .i64 j, .int .i64 d]] w fun e w' => e = .returned (.tuple #[.int .i64 (betX L i c j d).1, .int .i64 (betX L i c j d).2.1, .int .i64 (betX L i c j d).2.2]) ∧ Below w.heap.size w w' := by
  have hjl := joinL_len_le L
  obtain ⟨g, hgs⟩ : ∃ g, w.heap.size = g := ⟨_, rfl⟩
  obtain ⟨wb, hwb⟩ : ∃ wb, (w.alloc (.cells #[.int .i64 i, .int .i64 c] 30)).alloc (.cells #[.int .i64 j, .int .i64 d] 30) = wb := ⟨_, rfl⟩
  have hb1 : Below w.heap.size w (w.alloc (.cells #[.int .i64 i, .int .i64 c] 30)) := (Below.refl _ _).alloc (Nat.le_refl _) _
  have hB : Below g w wb := by rw [← hwb, ← hgs]; exact hb1.alloc hb1.size _
  have g1 : wb.heap[g]? = some (.cells #[.int .i64 i, .int .i64 c] 30 (0, 0)) := by
    rw [← hwb, ← hgs]
    have h1 := heap_alloc_new w (.cells #[.int .i64 i, .int .i64 c] 30)
    exact (((Below.refl _ _).alloc (Nat.le_refl _) _).block w.heap.size (heap_lt h1)).trans h1
  have g2 : wb.heap[g + 1]? = some (.cells #[.int .i64 j, .int .i64 d] 30 (0, 0)) := by
    rw [← hwb, ← hgs]
    have h2 := heap_alloc_new (w.alloc (.cells #[.int .i64 i, .int .i64 c] 30)) (.cells #[.int .i64 j, .int .i64 d] 30)
    simpa using h2
  have HC : Hid (∀ W, Below wb.heap.size wb W → W.cell? ⟨g, 0, none⟩ = some (.int .i64 i) ∧ W.cell? ⟨g, 1, none⟩ = some (.int .i64 c) ∧ W.cell? ⟨g + 1, 0, none⟩ = some (.int .i64 j) ∧ W.cell? ⟨g + 1, 1, none⟩ = some (.int .i64 d) ∧ g < W.heap.size ∧ g + 1 < W.heap.size) := by
    intro W hW
    have q1 := (hW.block g (heap_lt g1)).trans g1
    have q2 := (hW.block (g + 1) (heap_lt g2)).trans g2
    exact ⟨cell_row q1 0, cell_row q1 1, cell_row q2 0, cell_row q2 1, heap_lt q1, heap_lt q2⟩
  have hB0 : Below w.heap.size w wb := by rw [hgs]; exact hB
  have HO : Hid (∀ W, Below wb.heap.size wb W → Calls Try.prog 18 #[.pointer (some ⟨bx, 0, none⟩), .agg #[.int .i64 i, .int .i64 c]] W fun e w' => e = .returned (.tuple #[.int .i64 (offR L i c).1, .int .i64 (offR L i c).2]) ∧ Below W.heap.size W w') := fun W hW => roffset_any P bx L i c W ((h.below hB0).below hW) hs hi hc
  have HO2 : Hid (∀ W, Below wb.heap.size wb W → Calls Try.prog 18 #[.pointer (some ⟨bx, 0, none⟩), .agg #[.int .i64 j, .int .i64 d]] W fun e w' => e = .returned (.tuple #[.int .i64 (offR L j d).1, .int .i64 (offR L j d).2]) ∧ Below W.heap.size W w') := fun W hW => roffset_any P bx L j d W ((h.below hB0).below hW) hs hj hd
  have HB := Lib.hid hB
  have HWB := Lib.hid hwb
  have HGS := Lib.hid hgs
  have HZ : Hid (g ≤ wb.heap.size) := by show _ ≤ _; have := hB0.size; omega
  rw [hgs]
  have go : ∀ (o1 r1 o2 r2 b1 b2 b3 : Int), offR L i c = (o1, r1) → offR L j d = (o2, r2) → ((r1 = 0 ∧ r2 = 0 ∧ ¬ o2 < o1 ∧ (b1, b2, b3) = (o1, o2, 0)) ∨ (r1 = 0 ∧ r2 = 0 ∧ o2 < o1 ∧ (b1, b2, b3) = (0, 0, 1)) ∨ (r1 = 2 ∧ (b1, b2, b3) = (0, 0, 2)) ∨ (r1 = 0 ∧ r2 = 2 ∧ (b1, b2, b3) = (0, 0, 2))) →
      Calls Try.prog 54 #[.pointer (some ⟨bx, 0, none⟩), .agg #[.int .i64 i, .int .i64 c], .agg #[.int .i64 j, .int .i64 d]] w fun e w' => e = .returned (.tuple #[.int .i64 b1, .int .i64 b2, .int .i64 b3]) ∧ Below g w w' := by
    intro o1 r1 o2 r2 b1 b2 b3 e1 e2 hcase
    rw [e1] at HO
    rw [e2] at HO2
    simp only at HO HO2
    obtain ⟨x0, x1, x2, x3, l1, l2⟩ := HC.out wb (Below.refl _ _)
    clear h hgs hwb hb1 hB g1 g2 hB0 e1 e2
    go_enter Try.func54, Try.ntmps54
    go_upto_region 1 with fail
    (try rw [HGS.out])
    rw [HWB.out]
    go_wp2_with fail
    refine (HO.out wb (Below.refl _ _)).mono ?_
    rintro e w1 ⟨rfl, hb2⟩
    obtain ⟨y0, y1, y2, y3, m1, m2⟩ := HC.out w1 hb2
    have HW1 := Lib.hid hb2
    clear x0 x1 x2 x3 l1 l2 hb2 HO
    go_wp2_with fail
    refine (HO2.out w1 HW1.out).mono ?_
    rintro e w2 ⟨rfl, hb3⟩
    have HF : Hid (Below g w w2) := HB.out.trans ((HW1.out.trans (hb3.mono HW1.out.size)).mono HZ.out)
    clear y0 y1 y2 y3 m1 m2 hb3 HW1 HO2 HC HB
    rcases hcase with ⟨rfl, rfl, hlt, hb⟩ | ⟨rfl, rfl, hlt, hb⟩ | ⟨rfl, hb⟩ | ⟨rfl, rfl, hb⟩
    all_goals
      simp only [Prod.mk.injEq] at hb
      obtain ⟨rfl, rfl, rfl⟩ := hb
      go_wp2_with fail
      go_ret3
      exact ⟨by first | rfl | simp, HF.out⟩
  unfold betX
  cases h1 : hasP L i c with
  | false => exact go 0 2 _ _ _ _ _ (by unfold offR; rw [h1]; rfl) rfl (.inr (.inr (.inl ⟨rfl, rfl⟩)))
  | true =>
    cases h2 : hasP L j d with
    | false => exact go _ 0 0 2 _ _ _ (by unfold offR; rw [h1]; rfl) (by unfold offR; rw [h2]; rfl) (.inr (.inr (.inr ⟨rfl, rfl, rfl⟩)))
    | true =>
      by_cases hlt : (offN L j.toNat d.toNat : Int) < offN L i.toNat c.toNat
      · simp only [Bool.and_self, if_true, if_pos hlt]
        exact go (offN L i.toNat c.toNat) 0 (offN L j.toNat d.toNat) 0 _ _ _ (by unfold offR; rw [h1]; rfl) (by unfold offR; rw [h2]; rfl) (.inr (.inl ⟨rfl, rfl, hlt, rfl⟩))
      · simp only [Bool.and_self, if_true, if_neg hlt]
        exact go (offN L i.toNat c.toNat) 0 (offN L j.toNat d.toNat) 0 _ _ _ (by unfold offR; rw [h1]; rfl) (by unfold offR; rw [h2]; rfl) (.inl ⟨rfl, rfl, hlt, rfl⟩)
end Go.Proofs.Ytndlebopfojjeaa.U

namespace Go.Proofs.Ytndlebopfojjeaa.U
open Go.RowKit
set_option linter.unusedVariables false
set_option linter.unusedSimpArgs false
set_option maxRecDepth 100000

set_option maxHeartbeats 4000000 in
theorem rinsert_any (P : Nat → Prop) (bx : Nat) (L : List (List Int)) (i c : Int) (la : Option Addr) (ln lc : Nat) (l : List Int) (w : World) (h : RX P w bx L) (hne : L ≠ []) (hs : sizeN (lens L) ≤ 1048576) (hi : i64b i) (hc : i64b c) (hr : Rd .i32 w la ln lc l) :
    Calls Try.prog 33 #[.pointer (some ⟨bx, 0, none⟩), .agg #[.int .i64 i, .int .i64 c], .slice la ln lc] w fun e w' => e = .returned (.int .i64 (insT L i c l).2) ∧ AfX P w bx (insT L i c l).1 w' := by
  have hll := hr.1
  have hls := hr.small
  obtain ⟨ra, nr, rc, hrl, hcx⟩ := h.cell
  have HC := Lib.hid hcx
  have HWF := Lib.hid (rdl_wf hrl)
  obtain ⟨wb, hwb⟩ : ∃ wb, w.alloc (.cells #[.int .i64 i, .int .i64 c] 30) = wb := ⟨_, rfl⟩
  have hb0 : Below w.heap.size w wb := by rw [← hwb]; exact (Below.refl _ _).alloc (Nat.le_refl _) _
  have hg : wb.heap[w.heap.size]? = some (.cells #[.int .i64 i, .int .i64 c] 30 (0, 0)) := by rw [← hwb]; exact heap_alloc_new w _
  have x0 := cell_row hg 0
  have x1 := cell_row hg 1
  have lg := heap_lt hg
  have HO := Lib.hid (roffset_any P bx L i c wb (h.below hb0) hs hi hc)
  have HWB := Lib.hid hwb
  have HB0 := Lib.hid hb0
  have HX := Lib.hid h
  have HR := Lib.hid hr
  clear hwb hb0 hg h hr hcx
  cases hh : hasP L i c with
  | false =>
    have ho : offR L i c = (0, 2) := by unfold offR; rw [hh]; rfl
    have hI : insT L i c l = (L, 2) := by unfold insT; rw [hh]; rfl
    rw [ho] at HO
    simp only at HO
    rw [hI]
    clear ho hI
    go_enter Try.func33, Try.ntmps33
    go_upto_region 1 with fail
    rw [HWB.out]
    go_wp2_with fail
    refine HO.out.mono ?_
    rintro e w1 ⟨rfl, hb1⟩
    have HA : Hid (AfX P w bx L w1) := AfX.same HX.out (HB0.out.trans (hb1.mono HB0.out.size))
    clear hb1
    go_wp2_with fail
    go_ret
    exact ⟨rfl, HA.out⟩
  | true =>
    have hob := off_bound hh
    obtain ⟨N, hN⟩ : ∃ N, (joinL L).length = N := ⟨_, rfl⟩
    obtain ⟨n, hn⟩ : ∃ n, offN L i.toNat c.toNat = n := ⟨_, rfl⟩
    have hjl := joinL_len hne
    have ho : offR L i c = ((n : Int), 0) := by unfold offR; rw [hh, if_pos rfl, hn]
    have hI : insT L i c l = if 65536 - (N : Int) < (ln : Int) then (L, 3) else (splitL ((joinL L).take n ++ (l ++ (joinL L).drop n)), 0) := by unfold insT; rw [hh, if_pos rfl, hN, hn, hll]
    have HJ : Hid (∀ W, Below w.heap.size w W → Calls Try.prog 52 #[.slice ra nr rc] W fun e w' => ∃ a' c', e = .returned (.slice a' N c') ∧ w'.ownsRow W.heap.size 21 1 (.slice a' N c') N (ints (joinL L)) ∧ Below W.heap.size W w') := by
      intro W hW
      have := rjoined_any _ ra nr rc L W (hrl.below hW) hs
      rw [hN] at this
      exact this
    rw [ho] at HO
    simp only at HO
    rw [hN, hn] at hob
    have HNL := Lib.hid hN
    have hNb : N ≤ 1048576 := by omega
    by_cases hfull : 65536 - (N : Int) < (ln : Int)
    · rw [if_pos hfull] at hI
      rw [hI]
      clear ho hI hN hn hjl hh hrl
      go_enter Try.func33, Try.ntmps33
      go_upto_region 1 with fail
      rw [HWB.out]
      go_wp2_with fail
      refine HO.out.mono ?_
      rintro e w1 ⟨rfl, hb1⟩
      have HB1 : Hid (Below w.heap.size w w1) := HB0.out.trans (hb1.mono HB0.out.size)
      obtain ⟨c1, l1⟩ := HC.out w1 HB1.out
      have HJ1 := Lib.hid (HJ.out w1 HB1.out)
      clear hb1 HO x0 x1 lg HJ
      go_wp2_with fail
      refine HJ1.out.mono ?_
      rintro e w2 ⟨a2, c2, rfl, ho2, hb2⟩
      have HB2 : Hid (Below w.heap.size w w2) := HB1.out.trans (hb2.mono HB1.out.size)
      obtain ⟨d1, d2⟩ := HC.out w2 HB2.out
      have hJ := own_rd ho2 HWF.out
      have q0 : IntKind.i64.wrap (65536 - (N : Int)) = 65536 - (N : Int) := by rw [IntKind.wrap_i64]; omega
      clear c1 l1 hb2 ho2 HJ1
      have HA : Hid (AfX P w bx L w2) := AfX.same HX.out HB2.out
      clear hJ d1 d2
      go_wp2_with fail
      go_ret
      exact ⟨rfl, HA.out⟩
    rw [if_neg hfull] at hI
    obtain ⟨S, hS⟩ : ∃ S, splitL ((joinL L).take n ++ (l ++ (joinL L).drop n)) = S := ⟨_, rfl⟩
    rw [hI, hS]
    clear ho hI hN hn hjl hh hrl
    go_enter Try.func33, Try.ntmps33
    go_upto_region 1 with fail
    rw [HWB.out]
    go_wp2_with fail
    refine HO.out.mono ?_
    rintro e w1 ⟨rfl, hb1⟩
    have HB1 : Hid (Below w.heap.size w w1) := HB0.out.trans (hb1.mono HB0.out.size)
    obtain ⟨c1, l1⟩ := HC.out w1 HB1.out
    have HJ1 := Lib.hid (HJ.out w1 HB1.out)
    clear hb1 HO x0 x1 lg HJ
    go_wp2_with fail
    refine HJ1.out.mono ?_
    rintro e w2 ⟨a2, c2, rfl, ho2, hb2⟩
    have HB2 : Hid (Below w.heap.size w w2) := HB1.out.trans (hb2.mono HB1.out.size)
    obtain ⟨d1, d2⟩ := HC.out w2 HB2.out
    have hJ := own_rd ho2 HWF.out
    have q0 : IntKind.i64.wrap (65536 - (N : Int)) = 65536 - (N : Int) := by rw [IntKind.wrap_i64]; omega
    clear c1 l1 hb2 ho2 HJ1
    have hNl : N + ln ≤ 65536 := by omega
    have hJc : N ≤ c2 := hJ.2.1
    have hJm : c2 ≤ 9223372036854775807 := by have := hJ.2.2.1; unfold maxLen at this; omega
    obtain ⟨a3, c3, w3, hrun3, ho3, hb3⟩ := app_rd w2 w2.heap.size (.slice none 0 0) 0 [] a2 n c2 ((joinL L).take n) (World.ownsRow_nil _ _ _ _) (Nat.le_refl _) (hJ.take n hob) (by omega)
    have hb03 : Below w.heap.size w w3 := HB2.out.trans (hb3.mono HB2.out.size)
    obtain ⟨a4, c4, w4, hrun4, ho4, hb4⟩ := app_rd w3 w2.heap.size (.slice a3 (0 + n) c3) (0 + n) _ la ln lc l ho3 hb3.size (HR.out.below hb03) (by omega)
    have hb24 := hb3.trans hb4
    obtain ⟨ta, hta, htr⟩ : ∃ ta, (if c2 = n then a2 else a2.map (·.add (n * 1))) = ta ∧ Rd .i32 w4 ta (N - n) (c2 - n) ((joinL L).drop n) := ⟨_, rfl, (hJ.below hb24).drop n hob⟩
    obtain ⟨a5, c5, w5, hrun5, ho5, hb5⟩ := app_rd w4 w2.heap.size (.slice a4 (0 + n + ln) c4) (0 + n + ln) _ ta (N - n) (c2 - n) ((joinL L).drop n) ho4 hb24.size htr (by omega)
    have hb25 := hb24.trans hb5
    rw [Nat.zero_add] at hrun3 hrun4 hrun5 ho5
    rw [List.nil_append, List.append_assoc] at ho5
    have hwl : ∀ x ∈ (joinL L).take n ++ (l ++ (joinL L).drop n), (Lit.int .i32 x).wf = true := by
      intro x hx
      rcases List.mem_append.1 hx with hx | hx
      · exact HWF.out x (List.mem_of_mem_take hx)
      · rcases List.mem_append.1 hx with hx | hx
        · exact HR.out.2.2.2.1 x hx
        · exact HWF.out x (List.mem_of_mem_drop hx)
    obtain ⟨K, hK⟩ : ∃ K, n + ln + (N - n) = K := ⟨_, rfl⟩
    rw [hK] at hrun5 ho5
    have HSP := Lib.hid (rsplit_any a5 K c5 _ w5 (own_rd ho5 hwl) (by omega))
    have hwS : ∀ x ∈ S, ∀ y ∈ x, (Lit.int .i32 y).wf = true := by rw [← hS]; exact lines_wf (by rw [joinL_split]; exact hwl)
    rw [hS] at HSP
    have hb05 : Below w.heap.size w w5 := HB2.out.trans (hb25.mono HB2.out.size)
    have HPUT : Hid (∀ W a6 c6, FreshL w5.heap.size W a6 S.length c6 S → Below w5.heap.size w5 W → AfX P w bx S (W.setCell ⟨bx, 0, none⟩ (.slice a6 S.length c6)) ∧ (∃ u, W.cell? ⟨bx, 0, none⟩ = some u) ∧ W.frozen? ⟨bx, 0, none⟩ = false ∧ bx < W.heap.size) := fun W a6 c6 hf hb =>
      HX.out.put (hb05.trans (hb.mono hb05.size)) ((hf.rdl hwS).mono (fun k hk => Nat.le_trans hb05.size hk))
    have e4 := HC.out w3 hb03
    have e5 := HC.out w4 (HB2.out.trans (hb24.mono HB2.out.size))
    have e6 := HC.out w5 hb05
    obtain ⟨f1, f2⟩ := e4
    obtain ⟨f3, f4⟩ := e5
    obtain ⟨f5, f6⟩ := e6
    obtain ⟨M, hM⟩ : ∃ M, S.length = M := ⟨_, rfl⟩
    rw [hM] at HSP HPUT
    have HRUN3 := Lib.hid hrun3
    have HRUN4 := Lib.hid hrun4
    have HRUN5 := Lib.hid hrun5
    have HTA := Lib.hid hta
    have hnc : n ≤ c2 := by omega
    have r1 : (ln : Int) ≤ 65536 - (N : Int) := by omega
    have r2 : (n : Int) ≤ (N : Int) := by omega
    clear hrun3 hrun4 hrun5 ho3 ho4 ho5 hb3 hb4 hb5 hb24 hb25 hb03 hb05 hJ hta htr hK hS hwl hwS hM
    by_cases hcn : c2 = n
    · rw [if_pos hcn] at HTA
      have hta := HTA.out
      subst hta
      have hcn2 := eq_true hcn
      have HCN := Lib.hid hcn
      clear hcn
      go_wp2_with (at_builtin; go_must (first
        | (with_reducible refine Lib.wpList_append_run _ rfl (.tmp 31) (.tmp 34) _ _ rfl _ _ rfl rfl _ _ (HRUN3.out _) ?_)
        | (with_reducible refine Lib.wpList_append_run _ rfl (.tmp 36) (.tmp 37) _ _ rfl _ _ rfl rfl _ _ (HRUN4.out _) ?_)
        | (with_reducible refine Lib.wpList_append_run _ rfl (.tmp 40) (.tmp 43) _ _ rfl _ _ rfl rfl _ _ (HRUN5.out _) ?_)))
      refine HSP.out.mono ?_
      rintro e w6 ⟨a6, c6, rfl, hf6, hb6⟩
      obtain ⟨hA, ⟨u, hu⟩, hz, hl6⟩ := HPUT.out w6 a6 c6 hf6 hb6
      have HA := Lib.hid hA
      clear hf6 hb6 hA
      go_wp2_with fail
      go_ret
      exact ⟨rfl, HA.out⟩
    · rw [if_neg hcn, Nat.mul_one] at HTA
      have hta := HTA.out
      subst hta
      go_wp2_with (at_builtin; go_must (first
        | (with_reducible refine Lib.wpList_append_run _ rfl (.tmp 31) (.tmp 34) _ _ rfl _ _ rfl rfl _ _ (HRUN3.out _) ?_)
        | (with_reducible refine Lib.wpList_append_run _ rfl (.tmp 36) (.tmp 37) _ _ rfl _ _ rfl rfl _ _ (HRUN4.out _) ?_)
        | (with_reducible refine Lib.wpList_append_run _ rfl (.tmp 40) (.tmp 43) _ _ rfl _ _ rfl rfl _ _ (HRUN5.out _) ?_)))
      refine HSP.out.mono ?_
      rintro e w6 ⟨a6, c6, rfl, hf6, hb6⟩
      obtain ⟨hA, ⟨u, hu⟩, hz, hl6⟩ := HPUT.out w6 a6 c6 hf6 hb6
      have HA := Lib.hid hA
      clear hf6 hb6 hA
      go_wp2_with fail
      go_ret
      exact ⟨rfl, HA.out⟩
end Go.Proofs.Ytndlebopfojjeaa.U

namespace Go.Proofs.Ytndlebopfojjeaa.U
open Go.RowKit
set_option linter.unusedVariables false
set_option linter.unusedSimpArgs false
set_option maxRecDepth 100000

theorem betX_cases (L : List (List Int)) (i c j d : Int) : (∃ er : Int, (er = 1 ∨ er = 2) ∧ betX L i c j d = (0, 0, er) ∧ (betR L i c j d).2.2 = er) ∨ (∃ n m : Nat, offN L i.toNat c.toNat = n ∧ offN L j.toNat d.toNat = m ∧ n ≤ m ∧ m ≤ (joinL L).length ∧ betX L i c j d = ((n : Int), (m : Int), 0) ∧ (betR L i c j d).2.2 = 0) := by
  unfold betX betR
  cases h1 : hasP L i c with
  | false => exact .inl ⟨2, .inr rfl, rfl, rfl⟩
  | true =>
    cases h2 : hasP L j d with
    | false => exact .inl ⟨2, .inr rfl, rfl, rfl⟩
    | true =>
      simp only [Bool.and_self, if_true]
      by_cases hlt : (offN L j.toNat d.toNat : Int) < offN L i.toNat c.toNat
      · rw [if_pos hlt, if_pos hlt]; exact .inl ⟨1, .inl rfl, rfl, rfl⟩
      · rw [if_neg hlt, if_neg hlt]; exact .inr ⟨_, _, rfl, rfl, by omega, off_bound h2, rfl, rfl⟩
theorem two_boxes (w : World) (i c j d : Int) (wb : World) (hwb : (w.alloc (.cells #[.int .i64 i, .int .i64 c] 30)).alloc (.cells #[.int .i64 j, .int .i64 d] 30) = wb) :
    Below w.heap.size w wb ∧ wb.cell? ⟨w.heap.size, 0, none⟩ = some (.int .i64 i) ∧ wb.cell? ⟨w.heap.size, 1, none⟩ = some (.int .i64 c) ∧ wb.cell? ⟨w.heap.size + 1, 0, none⟩ = some (.int .i64 j) ∧ wb.cell? ⟨w.heap.size + 1, 1, none⟩ = some (.int .i64 d) ∧ w.heap.size < wb.heap.size ∧ w.heap.size + 1 < wb.heap.size := by
  have hb1 : Below w.heap.size w (w.alloc (.cells #[.int .i64 i, .int .i64 c] 30)) := (Below.refl _ _).alloc (Nat.le_refl _) _
  have h1 := heap_alloc_new w (.cells #[.int .i64 i, .int .i64 c] 30)
  have h2 := heap_alloc_new (w.alloc (.cells #[.int .i64 i, .int .i64 c] 30)) (.cells #[.int .i64 j, .int .i64 d] 30)
  have h3 := (((Below.refl _ _).alloc (Nat.le_refl _) (.cells #[.int .i64 j, .int .i64 d] 30)).block w.heap.size (heap_lt h1)).trans h1
  rw [hwb] at h2 h3
  have h4 : wb.heap[w.heap.size + 1]? = some (.cells #[.int .i64 j, .int .i64 d] 30 (0, 0)) := by simpa using h2
  have hb2 := hb1.alloc hb1.size (.cells #[.int .i64 j, .int .i64 d] 30)
  rw [hwb] at hb2
  exact ⟨hb2, cell_row h3 0, cell_row h3 1, cell_row h4 0, cell_row h4 1, heap_lt h3, heap_lt h4⟩

set_option maxHeartbeats 4000000 in
theorem rdelete_any (P : Nat → Prop) (bx : Nat) (L : List (List Int)) (i c j d : Int) (w : World) (h : RX P w bx L) (hne : L ≠ []) (hs : sizeN (lens L) ≤ 1048576) (hi : i64b i) (hc : i64b c) (hj : i64b j) (hd : i64b d) :
    Calls Try.prog 34 #[.pointer (some ⟨bx, 0, none⟩), .agg #[.int .i64 i, .int .i64 c], .agg #[.int .i64 j, .int .i64 d]] w fun e w' => e = .returned (.int .i64 (delT L i c j d).2) ∧ AfX P w bx (delT L i c j d).1 w' := by
  obtain ⟨ra, nr, rc, hrl, hcx⟩ := h.cell
  have HC := Lib.hid hcx
  have HWF := Lib.hid (rdl_wf hrl)
  obtain ⟨wb, hwb⟩ : ∃ wb, (w.alloc (.cells #[.int .i64 i, .int .i64 c] 30)).alloc (.cells #[.int .i64 j, .int .i64 d] 30) = wb := ⟨_, rfl⟩
  obtain ⟨hb0, x0, x1, x2, x3, lg, lg2⟩ := two_boxes w i c j d wb hwb
  have HO := Lib.hid (rbetween_any P bx L i c j d wb (h.below hb0) hs hi hc hj hd)
  have HWB := Lib.hid hwb
  have HB0 := Lib.hid hb0
  have HX := Lib.hid h
  clear hwb hb0 h hcx
  rcases betX_cases L i c j d with ⟨er, her, hbx, hbr⟩ | ⟨n, m, hn, hm, hnm, hml, hbx, hbr⟩
  · have hI : delT L i c j d = (L, er) := by unfold delT; rw [hbr, if_neg (by omega)]
    rw [hbx] at HO
    simp only at HO
    rw [hI]
    have t1 : (er != 0) = true := by simp; omega
    clear hbx hbr hI hrl
    go_enter Try.func34, Try.ntmps34
    go_upto_region 1 with fail
    rw [HWB.out]
    go_wp2_with fail
    refine HO.out.mono ?_
    rintro e w1 ⟨rfl, hb1⟩
    have HA : Hid (AfX P w bx L w1) := AfX.same HX.out (HB0.out.trans (hb1.mono HB0.out.size))
    clear hb1
    go_wp2_with fail
    go_ret
    exact ⟨rfl, HA.out⟩
  · obtain ⟨N, hN⟩ : ∃ N, (joinL L).length = N := ⟨_, rfl⟩
    have hjl := joinL_len hne
    obtain ⟨S, hS⟩ : ∃ S, splitL ((joinL L).take n ++ (joinL L).drop m) = S := ⟨_, rfl⟩
    have hI : delT L i c j d = (S, 0) := by unfold delT; rw [hbr, if_pos rfl, hn, hm, hS]
    have HJ : Hid (∀ W, Below w.heap.size w W → Calls Try.prog 52 #[.slice ra nr rc] W fun e w' => ∃ a' c', e = .returned (.slice a' N c') ∧ w'.ownsRow W.heap.size 21 1 (.slice a' N c') N (ints (joinL L)) ∧ Below W.heap.size W w') := by
      intro W hW
      have := rjoined_any _ ra nr rc L W (hrl.below hW) hs
      rw [hN] at this
      exact this
    rw [hbx] at HO
    simp only at HO
    rw [hI]
    rw [hN] at hml
    have HNL := Lib.hid hN
    have hNb : N ≤ 1048576 := by omega
    clear hbx hbr hI hN hn hm hjl hrl
    go_enter Try.func34, Try.ntmps34
    go_upto_region 1 with fail
    rw [HWB.out]
    go_wp2_with fail
    refine HO.out.mono ?_
    rintro e w1 ⟨rfl, hb1⟩
    have HB1 : Hid (Below w.heap.size w w1) := HB0.out.trans (hb1.mono HB0.out.size)
    obtain ⟨c1, l1⟩ := HC.out w1 HB1.out
    have HJ1 := Lib.hid (HJ.out w1 HB1.out)
    clear hb1 HO x0 x1 x2 x3 lg lg2 HJ
    go_wp2_with fail
    refine HJ1.out.mono ?_
    rintro e w2 ⟨a2, c2, rfl, ho2, hb2⟩
    have HB2 : Hid (Below w.heap.size w w2) := HB1.out.trans (hb2.mono HB1.out.size)
    obtain ⟨d1, d2⟩ := HC.out w2 HB2.out
    have hJ := own_rd ho2 HWF.out
    clear c1 l1 hb2 ho2 HJ1
    have hJc : N ≤ c2 := hJ.2.1
    have hJm : c2 ≤ 9223372036854775807 := by have := hJ.2.2.1; unfold maxLen at this; omega
    obtain ⟨a3, c3, w3, hrun3, ho3, hb3⟩ := app_rd w2 w2.heap.size (.slice none 0 0) 0 [] a2 n c2 ((joinL L).take n) (World.ownsRow_nil _ _ _ _) (Nat.le_refl _) (hJ.take n (by omega)) (by omega)
    have hb03 : Below w.heap.size w w3 := HB2.out.trans (hb3.mono HB2.out.size)
    obtain ⟨ta, hta, htr⟩ : ∃ ta, (if c2 = m then a2 else a2.map (·.add (m * 1))) = ta ∧ Rd .i32 w3 ta (N - m) (c2 - m) ((joinL L).drop m) := ⟨_, rfl, (hJ.below hb3).drop m hml⟩
    obtain ⟨a5, c5, w5, hrun5, ho5, hb5⟩ := app_rd w3 w2.heap.size (.slice a3 (0 + n) c3) (0 + n) _ ta (N - m) (c2 - m) ((joinL L).drop m) ho3 hb3.size htr (by omega)
    have hb25 := hb3.trans hb5
    rw [Nat.zero_add] at hrun3 hrun5 ho5
    rw [List.nil_append] at ho5
    have hwl : ∀ x ∈ (joinL L).take n ++ (joinL L).drop m, (Lit.int .i32 x).wf = true := by
      intro x hx
      rcases List.mem_append.1 hx with hx | hx
      · exact HWF.out x (List.mem_of_mem_take hx)
      · exact HWF.out x (List.mem_of_mem_drop hx)
    obtain ⟨K, hK⟩ : ∃ K, n + (N - m) = K := ⟨_, rfl⟩
    rw [hK] at hrun5 ho5
    have HSP := Lib.hid (rsplit_any a5 K c5 _ w5 (own_rd ho5 hwl) (by omega))
    have hwS : ∀ x ∈ S, ∀ y ∈ x, (Lit.int .i32 y).wf = true := by rw [← hS]; exact lines_wf (by rw [joinL_split]; exact hwl)
    rw [hS] at HSP
    have hb05 : Below w.heap.size w w5 := HB2.out.trans (hb25.mono HB2.out.size)
    have HPUT : Hid (∀ W a6 c6, FreshL w5.heap.size W a6 S.length c6 S → Below w5.heap.size w5 W → AfX P w bx S (W.setCell ⟨bx, 0, none⟩ (.slice a6 S.length c6)) ∧ (∃ u, W.cell? ⟨bx, 0, none⟩ = some u) ∧ W.frozen? ⟨bx, 0, none⟩ = false ∧ bx < W.heap.size) := fun W a6 c6 hf hb =>
      HX.out.put (hb05.trans (hb.mono hb05.size)) ((hf.rdl hwS).mono (fun k hk => Nat.le_trans hb05.size hk))
    obtain ⟨f1, f2⟩ := HC.out w3 hb03
    obtain ⟨f5, f6⟩ := HC.out w5 hb05
    obtain ⟨M, hM⟩ : ∃ M, S.length = M := ⟨_, rfl⟩
    rw [hM] at HSP HPUT
    have HRUN3 := Lib.hid hrun3
    have HRUN5 := Lib.hid hrun5
    have HTA := Lib.hid hta
    have hnc : m ≤ c2 := by omega
    have hnc2 : n ≤ c2 := by omega
    have r2 : (m : Int) ≤ (N : Int) := by omega
    have r3 : (n : Int) ≤ (N : Int) := by omega
    clear hrun3 hrun5 ho3 ho5 hb3 hb5 hb25 hb03 hb05 hJ hta htr hK hS hwl hwS hM
    by_cases hcn : c2 = m
    · rw [if_pos hcn] at HTA
      have hta := HTA.out
      subst hta
      have hcn2 := eq_true hcn
      have HCN := Lib.hid hcn
      clear hcn
      go_wp2_with (at_builtin; go_must (first
        | (with_reducible refine Lib.wpList_append_run _ rfl (.tmp 28) (.tmp 31) _ _ rfl _ _ rfl rfl _ _ (HRUN3.out _) ?_)
        | (with_reducible refine Lib.wpList_append_run _ rfl (.tmp 34) (.tmp 37) _ _ rfl _ _ rfl rfl _ _ (HRUN5.out _) ?_)))
      refine HSP.out.mono ?_
      rintro e w6 ⟨a6, c6, rfl, hf6, hb6⟩
      obtain ⟨hA, ⟨u, hu⟩, hz, hl6⟩ := HPUT.out w6 a6 c6 hf6 hb6
      have HA := Lib.hid hA
      clear hf6 hb6 hA
      go_wp2_with fail
      go_ret
      exact ⟨rfl, HA.out⟩
    · rw [if_neg hcn, Nat.mul_one] at HTA
      have hta := HTA.out
      subst hta
      go_wp2_with (at_builtin; go_must (first
        | (with_reducible refine Lib.wpList_append_run _ rfl (.tmp 28) (.tmp 31) _ _ rfl _ _ rfl rfl _ _ (HRUN3.out _) ?_)
        | (with_reducible refine Lib.wpList_append_run _ rfl (.tmp 34) (.tmp 37) _ _ rfl _ _ rfl rfl _ _ (HRUN5.out _) ?_)))
      refine HSP.out.mono ?_
      rintro e w6 ⟨a6, c6, rfl, hf6, hb6⟩
      obtain ⟨hA, ⟨u, hu⟩, hz, hl6⟩ := HPUT.out w6 a6 c6 hf6 hb6
      have HA := Lib.hid hA
      clear hf6 hb6 hA
      go_wp2_with fail
      go_ret
      exact ⟨rfl, HA.out⟩

set_option maxHeartbeats 4000000 in
theorem rslice_any (P : Nat → Prop) (bx : Nat) (L : List (List Int)) (i c j d : Int) (w : World) (h : RX P w bx L) (hne : L ≠ []) (hs : sizeN (lens L) ≤ 1048576) (hi : i64b i) (hc : i64b c) (hj : i64b j) (hd : i64b d) :
    Calls Try.prog 35 #[.pointer (some ⟨bx, 0, none⟩), .agg #[.int .i64 i, .int .i64 c], .agg #[.int .i64 j, .int .i64 d]] w fun e w' => ∃ a' c', e = .returned (.tuple #[.slice a' (sliT L i c j d).1.length c', .int .i64 (sliT L i c j d).2]) ∧ Rd .i32 w' a' (sliT L i c j d).1.length c' (sliT L i c j d).1 ∧ Below w.heap.size w w' := by
  obtain ⟨ra, nr, rc, hrl, hcx⟩ := h.cell
  have HC := Lib.hid hcx
  have HWF := Lib.hid (rdl_wf hrl)
  obtain ⟨wb, hwb⟩ : ∃ wb, (w.alloc (.cells #[.int .i64 i, .int .i64 c] 30)).alloc (.cells #[.int .i64 j, .int .i64 d] 30) = wb := ⟨_, rfl⟩
  obtain ⟨hb0, x0, x1, x2, x3, lg, lg2⟩ := two_boxes w i c j d wb hwb
  have HO := Lib.hid (rbetween_any P bx L i c j d wb (h.below hb0) hs hi hc hj hd)
  have HWB := Lib.hid hwb
  have HB0 := Lib.hid hb0
  clear hwb hb0 h hcx
  rcases betX_cases L i c j d with ⟨er, her, hbx, hbr⟩ | ⟨n, m, hn, hm, hnm, hml, hbx, hbr⟩
  · have hI : sliT L i c j d = ([], er) := by unfold sliT; rw [hbr, if_neg (by omega)]
    rw [hbx] at HO
    simp only at HO
    rw [hI]
    have t1 : (er != 0) = true := by simp; omega
    clear hbx hbr hI hrl
    go_enter Try.func35, Try.ntmps35
    go_upto_region 1 with fail
    rw [HWB.out]
    go_wp2_with fail
    refine HO.out.mono ?_
    rintro e w1 ⟨rfl, hb1⟩
    have HA : Hid (Below w.heap.size w w1) := HB0.out.trans (hb1.mono HB0.out.size)
    clear hb1
    go_wp2_with fail
    go_ret2
    exact ⟨none, 0, rfl, Rd.none0 _ _, HA.out⟩
  · obtain ⟨N, hN⟩ : ∃ N, (joinL L).length = N := ⟨_, rfl⟩
    have hjl := joinL_len hne
    obtain ⟨T, hT⟩ : ∃ T, ((joinL L).drop n).take (m - n) = T := ⟨_, rfl⟩
    have hI : sliT L i c j d = (T, 0) := by unfold sliT; rw [hbr, if_pos rfl, hn, hm, hT]
    have hTl : T.length = m - n := by rw [← hT, List.length_take, List.length_drop]; omega
    have HJ : Hid (∀ W, Below w.heap.size w W → Calls Try.prog 52 #[.slice ra nr rc] W fun e w' => ∃ a' c', e = .returned (.slice a' N c') ∧ w'.ownsRow W.heap.size 21 1 (.slice a' N c') N (ints (joinL L)) ∧ Below W.heap.size W w') := by
      intro W hW
      have := rjoined_any _ ra nr rc L W (hrl.below hW) hs
      rw [hN] at this
      exact this
    rw [hbx] at HO
    simp only at HO
    rw [hI]
    simp only [hTl]
    rw [hN] at hml
    have HT := Lib.hid hT
    clear hbx hbr hI hN hn hm hjl hrl hT hTl
    go_enter Try.func35, Try.ntmps35
    go_upto_region 1 with fail
    rw [HWB.out]
    go_wp2_with fail
    refine HO.out.mono ?_
    rintro e w1 ⟨rfl, hb1⟩
    have HB1 : Hid (Below w.heap.size w w1) := HB0.out.trans (hb1.mono HB0.out.size)
    obtain ⟨c1, l1⟩ := HC.out w1 HB1.out
    have HJ1 := Lib.hid (HJ.out w1 HB1.out)
    clear hb1 HO x0 x1 x2 x3 lg lg2 HJ
    go_wp2_with fail
    refine HJ1.out.mono ?_
    rintro e w2 ⟨a2, c2, rfl, ho2, hb2⟩
    have HB2 : Hid (Below w.heap.size w w2) := HB1.out.trans (hb2.mono HB1.out.size)
    have hJ := own_rd ho2 HWF.out
    have hJc : N ≤ c2 := hJ.2.1
    have hJm : c2 ≤ 9223372036854775807 := by have := hJ.2.2.1; unfold maxLen at this; omega
    have hsl := (hJ.take m hml).drop n hnm
    rw [List.drop_take, HT.out] at hsl
    have HSL := Lib.hid hsl
    have q1 : n ≤ c2 := by omega
    have q2 : m ≤ c2 := by omega
    have q3 : (n : Int) ≤ (m : Int) := by omega
    clear c1 l1 hb2 ho2 HJ1 hJ hsl
    by_cases hcn : c2 = n
    · rw [if_pos hcn] at HSL
      have hcn2 := eq_true hcn
      have HCN := Lib.hid hcn
      clear hcn
      go_wp2_with fail
      go_ret2
      exact ⟨_, _, rfl, HSL.out, HB2.out⟩
    · rw [if_neg hcn, Nat.mul_one] at HSL
      go_wp2_with fail
      go_ret2
      exact ⟨_, _, rfl, HSL.out, HB2.out⟩
end Go.Proofs.Ytndlebopfojjeaa.U
