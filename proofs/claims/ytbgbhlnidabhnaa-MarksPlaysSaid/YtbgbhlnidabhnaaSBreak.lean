/-
  bits.Len of less than 50, nextPowerOfTwo, xorshift.Next, breakPatternsOrdered: the row stays a permutation.
-/
import Derived.Test.YtbgbhlnidabhnaaSBase
import Derived.Deep.DeepCutAuto
import Derived.Laws.Bits64
import Derived.Laws.Bits64b
import Derived.Lib.BitFns
namespace Go.Proofs.Ytbgbhlnidabhnaa.U
open Go.RowKit
set_option linter.unusedVariables false
set_option linter.unusedSimpArgs false
set_option maxRecDepth 100000

theorem bits64_in (op : BinOp) (x y : Int) : 0 ≤ bits op .u64 x y ∧ bits op .u64 x y < 18446744073709551616 := by
  unfold bits
  simp only []
  rw [IntKind.wrap_u64]
  omega

theorem setCell_over (w : World) (blk off : Nat) (v v' : Value) : (w.setCell ⟨blk, off, none⟩ v).setCell ⟨blk, off, none⟩ v' = w.setCell ⟨blk, off, none⟩ v' := by
  rw [Sort.setCell_eq, Sort.setCell_eq, Sort.mapBlock_mapBlock, Sort.setCell_eq]
  congr 1
  funext c
  simp

theorem xnext_any (q : Nat) (X : Int) (w : World) (hc : w.cell? ⟨q, 0, none⟩ = some (.int .u64 X)) (hf : w.frozen? ⟨q, 0, none⟩ = false) (hX : 0 ≤ X ∧ X < 18446744073709551616) :
    Calls Try.prog 56 #[.pointer (some ⟨q, 0, none⟩)] w fun e w' => ∃ Y : Int, 0 ≤ Y ∧ Y < 18446744073709551616 ∧ e = .returned (.int .u64 Y) ∧ w' = (w.setCell ⟨q, 0, none⟩ (.int .u64 Y)).drewN 3 := by
  obtain ⟨A, hA⟩ : ∃ A, bits .xor .u64 X (IntKind.u64.wrap (X * 8192)) = A := ⟨_, rfl⟩
  obtain ⟨B, hB⟩ : ∃ B, bits .xor .u64 A (A / 128) = B := ⟨_, rfl⟩
  obtain ⟨C, hC⟩ : ∃ C, bits .xor .u64 B (IntKind.u64.wrap (B * 131072)) = C := ⟨_, rfl⟩
  have lA := bits64_in .xor X (IntKind.u64.wrap (X * 8192))
  have lB := bits64_in .xor A (A / 128)
  have lC := bits64_in .xor B (IntKind.u64.wrap (B * 131072))
  rw [hA] at lA
  rw [hB] at lB
  rw [hC] at lC
  have hss : ∀ v v', (w.setCell ⟨q, 0, none⟩ v).setCell ⟨q, 0, none⟩ v' = w.setCell ⟨q, 0, none⟩ v' := setCell_over w q 0
  go_enter Try.func56, Try.ntmps56
  go_wp2
  go_region
  all_goals go_wp2
  all_goals go_region
  all_goals go_wp2
  all_goals go_region
  all_goals go_wp2
  go_ret
  exact ⟨C, lC.1, lC.2, rfl, rfl⟩

/-- the table of bits.Len64, in the spelling of the program's text -/
@[go_sem ↓ high] theorem fold_len8 : (⟨((([0, 1, 2, 2, 3, 3, 3, 3, 4, 4, 4, 4, 4, 4, 4, 4, 5, 5, 5, 5, 5, 5, 5, 5, 5, 5, 5, 5, 5, 5, 5, 5, 6, 6, 6, 6, 6, 6, 6, 6, 6, 6, 6, 6, 6, 6, 6, 6, 6, 6, 6, 6, 6, 6, 6, 6, 6, 6, 6, 6, 6, 6, 6, 6] :
    List UInt8).append [7, 7, 7, 7, 7, 7, 7, 7, 7, 7, 7, 7, 7, 7, 7, 7, 7, 7, 7, 7, 7, 7, 7, 7, 7, 7, 7, 7, 7, 7, 7, 7, 7, 7, 7, 7, 7, 7, 7, 7, 7, 7, 7, 7, 7, 7, 7, 7, 7, 7, 7, 7, 7, 7, 7, 7, 7, 7, 7, 7,
    7, 7, 7, 7]).append ([8, 8, 8, 8, 8, 8, 8, 8, 8, 8, 8, 8, 8, 8, 8, 8, 8, 8, 8, 8, 8, 8, 8, 8, 8, 8, 8, 8, 8, 8, 8, 8, 8, 8, 8, 8, 8, 8, 8, 8, 8, 8, 8, 8, 8, 8, 8, 8, 8, 8, 8, 8, 8, 8, 8, 8, 8, 8, 8,
    8, 8, 8, 8, 8].append [8, 8, 8, 8, 8, 8, 8, 8, 8, 8, 8, 8, 8, 8, 8, 8, 8, 8, 8, 8, 8, 8, 8, 8, 8, 8, 8, 8, 8, 8, 8, 8, 8, 8, 8, 8, 8, 8, 8, 8, 8, 8, 8, 8, 8, 8, 8, 8, 8, 8, 8, 8, 8, 8, 8, 8, 8, 8, 8,
    8, 8, 8, 8, 8])).toArray⟩ : ByteArray) = Lib.len8tab := by decide +kernel

set_option maxRecDepth 1000000 in
theorem len64_any (x : Int) (w : World) (h0 : 0 ≤ x) (h1 : x < 50) :
    Calls Try.prog 53 #[.int .u64 x] w fun e w' => e = .returned (.int .i64 (Lib.len8 x)) ∧ w' = w := by
  go_enter Try.func53, Try.ntmps53
  rw [fold_len8]
  have hs := Lib.len8tab_size
  have hin : x.toNat < Lib.len8tab.size := by omega
  have hv : ((Lib.len8tab[x.toNat]'hin).toNat : Int) = Lib.len8 x := by simp only [Lib.len8, ByteArray.getElem?_lt' _ _ hin, Option.getD_some]
  have h := Lib.len8_of x (by omega) (by omega)
  have h2 := Lib.bitLen_le8' x (by omega) (by omega)
  have h3 : 0 ≤ Lib.len8 x ∧ Lib.len8 x ≤ 8 := by omega
  clear h h2
  go_wp2
  go_ret
  exact ⟨rfl, rfl⟩

theorem len8_two : ∀ n : Fin 50, 1 ≤ n.val → 2 ^ Lib.bitLen n.val ≤ 2 * n.val ∧ Lib.bitLen n.val ≤ 6 := by decide +kernel

theorem blen_any (x : Nat) (w : World) (h1 : x < 50) :
    Calls Try.prog 42 #[.int .u64 x] w fun e w' => e = .returned (.int .i64 (Lib.bitLen x : Nat)) ∧ w' = w := by
  have hl : Lib.len8 (x : Int) = (Lib.bitLen x : Int) := by
    rw [Lib.len8_of _ (by omega) (by omega)]
    simp
  go_enter Try.func42, Try.ntmps42
  go_wp2_with (go_at_call 53; refine (len64_any _ _ (by omega) (by omega)).mono ?_; rintro e w' ⟨rfl, rfl⟩)
  go_ret
  exact ⟨rfl, rfl⟩

theorem wrap_two (k : Nat) (hk : k ≤ 6) : IntKind.u64.wrap ((2 : Int) ^ k) = ((2 ^ k : Nat) : Int) := by
  have h : (2 : Nat) ^ k ≤ 2 ^ 6 := Nat.pow_le_pow_right (by decide) hk
  rw [IntKind.wrap_u64, show ((2 : Int) ^ k) = ((2 ^ k : Nat) : Int) by push_cast; rfl]
  generalize (2 : Nat) ^ k = p at h
  omega

theorem npow_any (x : Nat) (w : World) (h0 : 1 ≤ x) (h1 : x < 50) :
    Calls Try.prog 55 #[.int .i64 x] w fun e w' => ∃ M : Nat, e = .returned (.int .u64 (M : Nat)) ∧ 1 ≤ M ∧ M ≤ 2 * x ∧ w' = w := by
  obtain ⟨h2, h6⟩ := len8_two ⟨x, h1⟩ h0
  simp only [] at h2 h6
  have hb := blen_any x w h1
  obtain ⟨k, hk⟩ : ∃ k, Lib.bitLen x = k := ⟨_, rfl⟩
  rw [hk] at h2 h6 hb
  have hp := wrap_two k h6
  have h1p : 1 ≤ 2 ^ k := Nat.one_le_two_pow
  go_enter Try.func55, Try.ntmps55
  go_wp2_with (go_at_call 42; refine hb.mono ?_; rintro e w' ⟨rfl, rfl⟩)
  go_ret
  exact ⟨2 ^ k, by first | rfl | (congr 2), h1p, h2, rfl⟩

/-- an exchange within [a, b) keeps what lies there -/
theorem perm_swp {n a b i j : Nat} {d e : Array Int} (h : Sort.PermIn a b d e) (hn : e.size = n) (hai : a ≤ i) (hib : i < b) (haj : a ≤ j) (hjb : j < b) (hb : b ≤ n) : Sort.PermIn a b d (Sort.swp e i j) :=
  Sort.permIn_trans _ _ _ _ _ h (Sort.swp_permIn e a b i j hai hib haj hjb (by omega))

/-- in the midst of breakPatternsOrdered: the row, the word of chance in block sb -/
def BrS (w wr : World) (g cap n a b : Nat) (d e : Array Int) (X : Int) : Prop := e.size = n ∧ RowS wr g cap e ∧ Sort.PermIn a b d e ∧ wr.heap[w.heap.size]? = some (.cells #[.int .u64 X] 86 (0, 0)) ∧ Fr (fun k => k = g) w wr ∧ w.heap.size < wr.heap.size ∧ 0 ≤ X ∧ X < 18446744073709551616
theorem BrS.next {w wr : World} {g cap n a b : Nat} {d e : Array Int} {X : Int} (h : BrS w wr g cap n a b d e X) (hg : g < w.heap.size) :
    Calls Try.prog 56 #[.pointer (some ⟨w.heap.size, 0, none⟩)] wr fun ev w2 => ∃ Y : Nat, ev = .returned (.int .u64 (Y : Nat)) ∧ Y < 18446744073709551616 ∧ Hid (BrS w w2 g cap n a b d e Y) := by
  obtain ⟨h1, h2, h3, h4, h5, h6, h7, h8⟩ := h
  have hc : wr.cell? ⟨w.heap.size, 0, none⟩ = some (.int .u64 X) := by rw [cell_row h4]; rfl
  refine (xnext_any w.heap.size X wr hc (frozen_row h4 0) ⟨h7, h8⟩).mono ?_
  rintro ev w2 ⟨Y, y0, y1, rfl, rfl⟩
  obtain ⟨y, rfl⟩ : ∃ y : Nat, Y = (y : Int) := ⟨Y.toNat, by omega⟩
  have hf : Fr (fun k => k = w.heap.size) wr ((wr.setCell ⟨w.heap.size, 0, none⟩ (.int .u64 y)).drewN 3) := fr_drewN ((Fr.refl (fun k => k = w.heap.size) wr).setCell ⟨w.heap.size, 0, none⟩ (.int .u64 y) (fun _ => rfl)) 3
  refine ⟨y, rfl, by omega, h1, h2.block (hf.block g h2.lt (by omega)), h3, ?_, ?_, Nat.lt_of_lt_of_le h6 hf.size, by omega, by omega⟩
  · show ((wr.setCell ⟨w.heap.size, 0, none⟩ (.int .u64 y)).drewN 3).heap[w.heap.size]? = _
    show (wr.setCell ⟨w.heap.size, 0, none⟩ (.int .u64 y)).heap[w.heap.size]? = _
    rw [heap_set h4]
    rfl
  · have := h5.trans hf (G := fun k => k = w.heap.size) (fun x hx e => by omega)
    exact this
theorem BrS.swp {w w2 : World} {g cap n a b : Nat} {d e : Array Int} {X : Int} (h : BrS w w2 g cap n a b d e X) (hg : g < w.heap.size) {i j : Nat} (hai : a ≤ i) (hib : i < b) (haj : a ≤ j) (hjb : j < b) (hb : b ≤ n) :
    BrS w (((w2.drew).setCell ⟨g, i, none⟩ (.int .i32 e[j]!)).setCell ⟨g, j, none⟩ (.int .i32 e[i]!)) g cap n a b d (Sort.swp e i j) X := by
  obtain ⟨h1, h2, h3, h4, h5, h6, h7, h8⟩ := h
  have hf := fr_set2 w2.drew g i j (.int .i32 e[j]!) (.int .i32 e[i]!)
  exact ⟨by rw [Sort.size_swp]; exact h1, h2.drew.swp (by omega) (by omega), perm_swp h3 h1 hai hib haj hjb hb, (hf.block _ (show w.heap.size < w2.heap.size from h6) (by omega)).trans h4, h5.drew.trans hf (fun _ _ h => h), Nat.lt_of_lt_of_le h6 hf.size, h7, h8⟩

set_option maxHeartbeats 4000000 in
/-- breakPatternsOrdered, of less than 50 -/
theorem break_any (g cap n a b : Nat) (d : Array Int) (w : World) (h : RowS w g cap d) (hn : d.size = n) (hn2 : n < 50) (hab : a + 12 < b) (hb : b ≤ n) :
    Calls Try.prog 45 #[.slice (some ⟨g, 0, none⟩) n cap, .int .i64 a, .int .i64 b] w fun e w' => e = .returned (.tuple #[]) ∧ ∃ d' : Array Int, d'.size = n ∧ RowS w' g cap d' ∧ Sort.PermIn a b d d' ∧ Fr (fun k => k = g) w w' := by
  obtain ⟨l, hl⟩ : ∃ l, b - a = l := ⟨_, rfl⟩
  have hl1 : (b : Int) - (a : Int) = (l : Int) := by omega
  obtain ⟨q, hq⟩ : ∃ q, l / 4 = q := ⟨_, rfl⟩
  have hq1 : (l : Int) / 4 = (q : Int) := by omega
  obtain ⟨c, hc⟩ : ∃ c, a + q * 2 = c := ⟨_, rfl⟩
  have hc1 : (a : Int) + (q : Int) * 2 = (c : Int) := by omega
  obtain ⟨i0, hi0⟩ : ∃ i, c - 1 = i := ⟨_, rfl⟩
  have hi01 : (c : Int) - 1 = (i0 : Int) := by omega
  have l1 : (8 : Int) ≤ (l : Int) := by omega
  have l2 : (l : Int) < 50 := by omega
  have hac : a + 4 ≤ c := by omega
  have hcb : c + 2 ≤ b := by omega
  have hbl : a + l = b := by omega
  have hgl := h.lt
  obtain ⟨wa, hwa⟩ : ∃ wa, w.alloc (.cells #[.int .u64 (l : Int)] 86) = wa := ⟨_, rfl⟩
  have HR0 : Hid (BrS w wa g cap n a b d d l) := by
    rw [← hwa]
    exact ⟨hn, h.below ((Below.refl _ w).alloc (Nat.le_refl _) _), Sort.permIn_refl _ _ _, heap_alloc_new w (.cells #[.int .u64 (l : Int)] 86), (Fr.refl _ w).alloc _, by simp, by omega, by omega⟩
  have HP := fun W => npow_any l W (by omega) (by omega)
  have HN := Lib.hid hn
  have HHP := Lib.hid HP
  clear hl hq h hn HP hc
  go_enter Try.func45, Try.ntmps45
  go_wp2_with (go_at_call 55; refine (HHP.out _).mono ?_; rintro e w1 ⟨M, rfl, hM1, hM2, rfl⟩)
  go_loopw [9] (fun vi wr => ∃ (i : Nat) (e : Array Int) (X : Int), vi = .int .i64 i ∧ i0 ≤ i ∧ i ≤ c + 2 ∧ Hid (BrS w wr g cap n a b d e X)) (fun vi _ => c + 3 - (intOf vi).toNat)
  case atStart => exact ⟨i0, d, l, rfl, Nat.le_refl _, by omega, HR0⟩
  case round =>
    obtain ⟨i, e, X, rfl, hi1, hi2, HB⟩ := hrel
    clear HR0
    by_cases hic : i ≤ c + 1
    · have hid : decide ((i : Int) ≤ (c : Int) + 1) = true := by simp; omega
      go_upto_region 8 with (go_at_call 56; refine (BrS.next HB.out hgl).mono ?_; rintro ev w2 ⟨Y, rfl, hY, HB2⟩; obtain ⟨O, hO⟩ : (∃ O : Nat, Y &&& (M - 1) = O) := ⟨_, rfl⟩; have eAnd : bits .and .u64 (Y : Int) ((M : Int) - 1) = (O : Int) := (by rw [show ((M : Int) - 1) = ((M - 1 : Nat) : Int) by omega, bits_and_u64_nat _ _ hY (by omega), hO]); have hOM : O ≤ M - 1 := (by rw [← hO]; exact Nat.and_le_right); clear hO)
      by_cases hlo : l ≤ O
      · obtain ⟨o, ho⟩ : ∃ o, O - l = o := ⟨_, rfl⟩
        have ho1 : (O : Int) - (l : Int) = (o : Int) := by omega
        have hol : o < l := by omega
        obtain ⟨k, hk⟩ : ∃ k, a + o = k := ⟨_, rfl⟩
        have hk1 : (a : Int) + (o : Int) = (k : Int) := by omega
        have hka : a ≤ k := by omega
        have hkb : k < b := by omega
        have hia : a ≤ i := by omega
        have hib : i < b := by omega
        have hin9 : (i : Int) < (n : Int) := by omega
        have hkn9 : (k : Int) < (n : Int) := by omega
        have x0 := HB2.out.2.1.at_ (i := i) (by rw [HB2.out.1]; omega)
        have y0 := HB2.out.2.1.at_ (i := k) (by rw [HB2.out.1]; omega)
        obtain ⟨xi, hxi⟩ : ∃ x, e[i]! = x := ⟨_, rfl⟩
        obtain ⟨xk, hxk⟩ : ∃ x, e[k]! = x := ⟨_, rfl⟩
        rw [hxi] at x0
        rw [hxk] at y0
        have z0 := HB2.out.2.1.fz i
        have z1 := HB2.out.2.1.fz k
        have HX := Lib.hid (And.intro hxi hxk)
        clear hxi hxk hk
        by_cases hik : i = k
        · subst hik
          have hxx : xk = xi := by rw [← HX.out.1, ← HX.out.2]
          subst hxx
          go_wp2
          go_region
          all_goals go_wp2
          all_goals go_roundw
          case rel =>
            have hs := HB2.out.swp hgl (i := i) (j := i) hia hib hka hkb hb
            rw [HX.out.1] at hs
            exact ⟨i + 1, _, Y, by go_num, by omega, by omega, hs⟩
          case measure => simp [intOf]; omega
        · have ne1 : ¬ i = k := hik
          have ne2 : ¬ k = i := fun h => hik h.symm
          go_wp2
          go_region
          all_goals go_wp2
          all_goals go_roundw
          case rel =>
            have hs := HB2.out.swp hgl (i := i) (j := k) hia hib hka hkb hb
            rw [HX.out.1, HX.out.2] at hs
            exact ⟨i + 1, _, Y, by go_num, by omega, by omega, hs⟩
          case measure => simp [intOf]; omega
      · have hlo2 : decide ((l : Int) ≤ (O : Int)) = false := by simp; omega
        have hol : O < l := by omega
        obtain ⟨k, hk⟩ : ∃ k, a + O = k := ⟨_, rfl⟩
        have hk1 : (a : Int) + (O : Int) = (k : Int) := by omega
        have hka : a ≤ k := by omega
        have hkb : k < b := by omega
        have hia : a ≤ i := by omega
        have hib : i < b := by omega
        have hin9 : (i : Int) < (n : Int) := by omega
        have hkn9 : (k : Int) < (n : Int) := by omega
        have x0 := HB2.out.2.1.at_ (i := i) (by rw [HB2.out.1]; omega)
        have y0 := HB2.out.2.1.at_ (i := k) (by rw [HB2.out.1]; omega)
        obtain ⟨xi, hxi⟩ : ∃ x, e[i]! = x := ⟨_, rfl⟩
        obtain ⟨xk, hxk⟩ : ∃ x, e[k]! = x := ⟨_, rfl⟩
        rw [hxi] at x0
        rw [hxk] at y0
        have z0 := HB2.out.2.1.fz i
        have z1 := HB2.out.2.1.fz k
        have HX := Lib.hid (And.intro hxi hxk)
        clear hxi hxk hk
        by_cases hik : i = k
        · subst hik
          have hxx : xk = xi := by rw [← HX.out.1, ← HX.out.2]
          subst hxx
          go_wp2
          go_region
          all_goals go_wp2
          all_goals go_roundw
          case rel =>
            have hs := HB2.out.swp hgl (i := i) (j := i) hia hib hka hkb hb
            rw [HX.out.1] at hs
            exact ⟨i + 1, _, Y, by go_num, by omega, by omega, hs⟩
          case measure => simp [intOf]; omega
        · have ne1 : ¬ i = k := hik
          have ne2 : ¬ k = i := fun h => hik h.symm
          go_wp2
          go_region
          all_goals go_wp2
          all_goals go_roundw
          case rel =>
            have hs := HB2.out.swp hgl (i := i) (j := k) hia hib hka hkb hb
            rw [HX.out.1, HX.out.2] at hs
            exact ⟨i + 1, _, Y, by go_num, by omega, by omega, hs⟩
          case measure => simp [intOf]; omega
    · have hid : decide ((i : Int) ≤ (c : Int) + 1) = false := by simp; omega
      go_wp2
      go_end0
      exact ⟨rfl, e, HB.out.1, HB.out.2.1, HB.out.2.2.1, HB.out.2.2.2.2.1⟩
end Go.Proofs.Ytbgbhlnidabhnaa.U
