/-
  The contracts of lengths.line, lengths.place.
-/
import Derived.Test.YtndlebopfojjeaaTLeaf
namespace Go.Proofs.Ytndlebopfojjeaa.U
open Go.RowKit
set_option linter.unusedVariables false
set_option linter.unusedSimpArgs false
set_option maxRecDepth 100000

theorem flat_size {bs : List (List Nat)} {k : Nat} {b : List Nat} (h : bs[k]? = some b) : sizeN (bs.take (k + 1)).flatten = sizeN (bs.take k).flatten + (b.sum + b.length) := by
  rw [flat_succ h, sizeN_append, sizeN_sum b]
theorem mem_le_sum {ls : List Nat} {x : Nat} (h : x ∈ ls) : x ≤ ls.sum := by
  induction ls with
  | nil => cases h
  | cons a l ih =>
    simp only [List.mem_cons] at h
    rw [List.sum_cons]
    rcases h with rfl | h
    · omega
    · have := ih h; omega
theorem flat_take_le (bs : List (List Nat)) (k : Nat) : sizeN (bs.take k).flatten ≤ sizeN bs.flatten := by
  rw [flat_cut bs k, sizeN_append]; omega
/-- the line in its block -/
theorem line_in {bs : List (List Nat)} {i k o : Nat} {b : List Nat} (hi : i ≤ bs.flatten.length) (hf : findB bs i = (k, o)) (hb : bs[k]? = some b) :
    o < b.length ∧ sizeN (bs.flatten.take i) = sizeN (bs.take k).flatten + (b.take o).sum + o ∧ bs.flatten.getD i 0 = b.getD o 0 := by
  obtain ⟨hk, e⟩ := List.getElem?_eq_some_iff.1 hb
  obtain ⟨h1, h2, h3, h4⟩ := findB_spec bs i hi
  rw [hf] at h1 h2 h3 h4
  simp only at h1 h2 h3 h4
  have ho := h3 hk
  rw [List.getD_eq_getElem?_getD, hb, Option.getD_some] at ho
  have hfl : bs.flatten = (bs.take k).flatten ++ (b ++ (bs.drop (k + 1)).flatten) := by rw [flat_cut bs k, flat_at hb]
  refine ⟨ho, ?_, ?_⟩
  · rw [hfl, ← h2, List.take_append, List.take_of_length_le (by omega), sizeN_append, show (bs.take k).flatten.length + o - (bs.take k).flatten.length = o from by omega, List.take_append_of_le_length (by omega), sizeN_sum (b.take o), List.length_take, Nat.min_eq_left (by omega)]
    omega
  · rw [hfl, ← h2, List.getD_eq_getElem?_getD, List.getElem?_append_right (by omega), show (bs.take k).flatten.length + o - (bs.take k).flatten.length = o from by omega, List.getElem?_append_left ho, List.getD_eq_getElem?_getD]
theorem line_end {bs : List (List Nat)} {i k o : Nat} (hi : i ≤ bs.flatten.length) (hf : findB bs i = (k, o)) (hk : bs.length ≤ k) : i = bs.flatten.length ∧ k = bs.length := by
  obtain ⟨h1, h2, h3, h4⟩ := findB_spec bs i hi
  rw [hf] at h1 h2 h3 h4
  simp only at h1 h2 h3 h4
  have e : k = bs.length := by omega
  have := h4 e
  subst e
  rw [List.take_length] at h2
  exact ⟨by omega, rfl⟩

set_option maxHeartbeats 1000000 in
theorem tline_any (F : Nat → Prop) (bt : Nat) (a : Option Addr) (n c : Nat) (ps : List ((Option Addr × Nat) × List Nat)) (count i : Nat) (w : World) (h : LB w F bt a n c ps count) (hi : i ≤ count) :
    Calls Try.prog 37 #[.pointer (some ⟨bt, 1, none⟩), .int .i64 i] w fun e w' => e = .returned (.tuple #[.int .i64 (sizeN ((lists ps).flatten.take i) : Nat), .int .i64 ((lists ps).flatten.getD i 0 : Nat)]) ∧ Below w.heap.size w w' := by
  have hfind := tfind_any F bt a n c ps count i w h hi
  have hlt := h.lt
  have hcb := h.cntb
  have hfew := h.few
  have hN := h.plen
  have hspec := findB_spec (lists ps) i (by rw [h.cnt]; exact hi)
  obtain ⟨k, o, hko⟩ : ∃ k o, findB (lists ps) i = (k, o) := ⟨_, _, rfl⟩
  rw [hko] at hfind hspec
  simp only at hfind hspec
  have hk := hspec.1
  rw [lists_len, hN] at hk
  have ho : o ≤ count := by have := hspec.2.1; omega
  have hcap : n ≤ c := h.rd.2.1
  have hcm : c ≤ 9223372036854775807 := by have := h.rd.2.2.1; unfold maxLen at this; omega
  obtain ⟨AH, hAH⟩ : ∃ AH, sizeN ((lists ps).flatten.take i) = AH := ⟨_, rfl⟩
  obtain ⟨LN, hLN⟩ : ∃ LN, (lists ps).flatten.getD i 0 = LN := ⟨_, rfl⟩
  rw [hAH, hLN]
  have HAH := Lib.hid hAH
  have HLN := Lib.hid hLN
  have HFI := Lib.hid hfind
  have HKO := Lib.hid hko
  have H := Lib.hid h
  have HN := Lib.hid hN
  clear hAH hLN
  have HI : Hid (i ≤ (lists ps).flatten.length) := by show _ ≤ _; rw [h.cnt]; exact hi
  clear hfind hko h hspec hN
  go_enter Try.func37, Try.ntmps37
  go_wp2_with fail
  refine HFI.out.mono ?_
  rintro e w1 ⟨rfl, hb1⟩
  have c1 := (hb1.cell (p := ⟨bt, 1, none⟩) hlt).trans H.out.c1
  have hs1 := hb1.size
  have hlt1 : bt < w1.heap.size := by omega
  have HB1 := Lib.hid hb1
  clear hb1
  go_wp2_with fail
  go_loopw [4, 23] (fun v4 v23 wr => ∃ j s : Nat, v23 = .int .i64 j ∧ v4 = .int .i64 s ∧ j ≤ k ∧ s ≤ 1099511627776 ∧ Hid (s = sizeN ((lists ps).take j).flatten) ∧ Below w.heap.size w wr) (fun _ v23 _ => k - (intOf v23).toNat)
  case atStart => exact ⟨0, 0, rfl, rfl, Nat.zero_le _, by omega, rfl, HB1.out⟩
  case round =>
    obtain ⟨j, s, rfl, rfl, hj, hs, he, hb⟩ := hrel
    have hsz := hb.size
    clear c1 hlt1 hs1
    by_cases hjk : j < k
    · obtain ⟨p, hp⟩ : ∃ p, ps[j]? = some p := ⟨_, List.getElem?_eq_getElem (by have := HN.out; omega)⟩
      obtain ⟨b, off, rfl, hbl, d0, d1, hrd, hsm⟩ := H.out.get hb hp
      have hblw : b < wr.heap.size := by omega
      have hfs := flat_size (lists_at hp)
      have hle := flat_take_le (lists ps) (j + 1)
      have hsmall := H.out.small
      obtain ⟨⟨ra, rc⟩, ls⟩ := p
      simp only at d0 d1 hfs hsm
      have hs2 : s + (ls.sum + ls.length) ≤ 1099511627776 := by have := he.out; omega
      have HE : Hid (s + (ls.sum + ls.length) = sizeN ((lists ps).take (j + 1)).flatten) := by show _ = _; rw [hfs, he.out]
      obtain ⟨x, hx⟩ : ∃ x, ls.length = x := ⟨_, rfl⟩
      obtain ⟨y, hy⟩ : ∃ y, ls.sum = y := ⟨_, rfl⟩
      rw [hx] at d0 hsm hs2 HE
      rw [hy] at d1 hsm hs2 HE
      clear hrd hp hx hy hfs hle hsmall he
      go_wp2_with (go_at_call 56; refine (size_any _ _ _ _ _ (by omega) (by omega)).mono ?_; rintro e w' ⟨rfl, rfl⟩)
      go_roundw
      case rel => exact ⟨j + 1, s + (y + x), by go_num, by go_num, by omega, hs2, HE, (hb.alloc (by omega) _).alloc (by simp; omega) _⟩
      case measure => simp [intOf]; omega
    · obtain rfl : j = k := by omega
      have c1' : wr.cell? ⟨bt, 1, none⟩ = some (.slice a n c) := (hb.cell (p := ⟨bt, 1, none⟩) hlt).trans H.out.c1
      have hbtw : bt < wr.heap.size := by omega
      by_cases hjn : j < n
      · obtain ⟨p, hp⟩ : ∃ p, ps[j]? = some p := ⟨_, List.getElem?_eq_getElem (by have := HN.out; omega)⟩
        obtain ⟨b, off, rfl, hbl, d0, d1, hrd, hsm⟩ := H.out.get hb hp
        have hblw : b < wr.heap.size := by omega
        obtain ⟨l1, l2, l3⟩ := line_in HI.out HKO.out (lists_at hp)
        obtain ⟨⟨ra, rc⟩, ls⟩ := p
        simp only at d0 d1 hsm hrd l1 l2 l3
        have hsum := fun W (hW : Below wr.heap.size wr W) => sum_any ra o rc (ls.take o) W (Rc.below (hrd.take o (by omega)) hW) (by have := sum_take_le ls o; unfold lim; omega)
        obtain ⟨rb, ro, rfl, hrl, hrc⟩ := hrd.at_ (by omega)
        obtain ⟨x, hx⟩ : ∃ x, ls[o]? = some x := ⟨_, List.getElem?_eq_getElem l1⟩
        have cx := hrc o x hx
        rw [List.getD_eq_getElem?_getD (l := ls), hx, Option.getD_some] at l3
        have hst := sum_take_le ls o
        obtain ⟨y, hy⟩ : ∃ y, (ls.take o).sum = y := ⟨_, rfl⟩
        rw [hy] at l2 hst hsum
        have hrcc : ls.length ≤ rc := hrd.2.1
        have hrcm : rc ≤ 9223372036854775807 := by have := hrd.2.2.1; unfold maxLen at this; omega
        obtain ⟨z, hz⟩ : ∃ z, ls.length = z := ⟨_, rfl⟩
        rw [hz] at d0 l1 hsm hrcc
        have HSUM := Lib.hid hsum
        have hst2 := sizeN_take_le (lists ps).flatten i
        rw [HAH.out] at hst2 l2
        rw [HLN.out] at l3
        have e2 : AH = s + y + o := by rw [l2, he.out]
        subst e2
        subst l3
        have hsmall := H.out.small
        have hb2 : s + y + o ≤ 1099511627776 := by omega
        have hxb : LN ≤ 1099511627776 := by
          have : LN ∈ ls := List.mem_of_getElem? hx
          have := mem_le_sum this
          omega
        clear hsum hy hx hz hrc hrd hp l2 hst2 hsmall he HAH HLN
        go_wp2_with fail
        go_quiet ((go_at_call 57; exact Calls.quiet_of_same ((HSUM.out _ (bdrewN (Below.refl _ _) _)).mono fun e w' h => ⟨h.1, h.2.symm⟩)))
        go_wp2_with fail
        go_ret2
        exact ⟨rfl, bdrewN hb _⟩
      · obtain ⟨l1, l2⟩ := line_end HI.out HKO.out (by rw [lists_len, HN.out]; omega)
        obtain rfl : j = n := by omega
        have e2 : AH = s := by
          rw [← HAH.out, he.out, l1, List.take_length, List.take_of_length_le (by rw [lists_len, HN.out]; omega)]
        have e3 : LN = 0 := by rw [← HLN.out, List.getD_eq_getElem?_getD, List.getElem?_eq_none (by omega)]; rfl
        subst e2 e3
        have heq : ((j : Int) == (j : Int)) = true := by simp
        clear l1 he HAH HLN
        go_wp2_with fail
        go_ret2
        exact ⟨rfl, hb⟩
end Go.Proofs.Ytndlebopfojjeaa.U
