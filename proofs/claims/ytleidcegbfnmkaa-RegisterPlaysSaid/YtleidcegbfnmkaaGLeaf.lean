/-
  The document's leaves: big, little, size, Twin, Same.
-/
import Derived.Test.YtleidcegbfnmkaaGMem
namespace Go.Proofs.Ytleidcegbfnmkaa.U
open Go.RowKit
set_option linter.unusedVariables false
set_option linter.unusedSimpArgs false
set_option maxRecDepth 100000

theorem ret_boolG {a b : Bool} (h : a = b) : Ending.returned (.bool a) = Ending.returned (.bool b) := by rw [h]
theorem rbig_any (c : Int) (w : World) : Calls Try.prog 24 #[.int .i32 c] w fun e w' => e = .returned (.bool (bigR c)) ∧ w' = w := by
  unfold bigR
  go_enter Try.func24, Try.ntmps24
  by_cases b1 : 65 ≤ c <;> by_cases b2 : c ≤ 90 <;>
  (go_wp2; go_ret; exact ⟨ret_boolG (by simp [b1, b2]), rfl⟩)
theorem rlittle_any (c : Int) (w : World) : Calls Try.prog 25 #[.int .i32 c] w fun e w' => e = .returned (.bool (littleR c)) ∧ w' = w := by
  unfold littleR
  go_enter Try.func25, Try.ntmps25
  by_cases b1 : 97 ≤ c <;> by_cases b2 : c ≤ 122 <;>
  (go_wp2; go_ret; exact ⟨ret_boolG (by simp [b1, b2]), rfl⟩)
set_option maxHeartbeats 1000000 in
theorem rsz_any (F : Nat → Prop) (a : Option Addr) (n c : Nat) (L : List (List Int)) (w : World) (h : RdL F w a n c L) (hs : sizeR L ≤ 4611686018427387904) :
    Calls Try.prog 36 #[.slice a n c] w fun e w' => e = .returned (.int .i64 (sizeR L : Nat)) ∧ w' = w := by
  have hl := h.len
  have hsm := h.small
  have H := Lib.hid (And.intro h (And.intro hl hs))
  clear h hl hs
  go_enter Try.func36, Try.ntmps36
  go_wp2
  go_loopw [3, 4] (fun v iv wr => ∃ N i : Nat, v = .int .i64 N ∧ iv = .int .i64 i ∧ i ≤ n ∧ Hid (wr = w) ∧ Hid (N = n + (sizeR (L.take i) - i)) ∧ N ≤ 4611686018427387904) (fun _ iv _ => n - (intOf iv).toNat)
  case atStart => exact ⟨n, 0, rfl, rfl, Nat.zero_le _, rfl, (by simp [Hid, sizeR, lens, sizeN]), by have := size_count L; have := H.out.2; unfold sizeR at this; omega⟩
  case round =>
    obtain ⟨N, i, rfl, rfl, hin, HW, HN, hN⟩ := hrel
    by_cases hlt : i < n
    · obtain ⟨x, hx⟩ : ∃ x, L[i]? = some x := ⟨L[i]'(by have := H.out.2.1; omega), List.getElem?_eq_getElem _⟩
      have hwr := HW.out
      subst hwr
      obtain ⟨b, off, ra, rc, rfl, hbl, hF, e0, hrd, -, -⟩ := H.out.1.get (Below.refl _ _) hx
      have hst : sizeR (L.take (i + 1)) = sizeR (L.take i) + (x.length + 1) := size_take hx
      have hle : sizeR (L.take (i + 1)) ≤ sizeR L := size_take_le L (i + 1)
      have hct : i ≤ sizeR (L.take i) := by
        have := size_count (L.take i)
        rw [List.length_take, H.out.2.1, Nat.min_eq_left (by omega)] at this
        exact this
      have hmx := hrd.small
      have hcl : n - i - 1 ≤ sizeR (L.drop (i + 1)) := by
        have := size_count (L.drop (i + 1))
        rw [List.length_drop, H.out.2.1] at this
        unfold sizeR
        omega
      have hsum : sizeR (L.take (i + 1)) + sizeR (L.drop (i + 1)) = sizeR L := by rw [← size_app, List.take_append_drop]
      have HA := Lib.hid (And.intro hst (And.intro hle (And.intro hct (And.intro hcl hsum))))
      obtain ⟨m, hm⟩ : ∃ m, x.length = m := ⟨_, rfl⟩
      rw [hm] at e0 hmx HA
      have hNm : N + m ≤ 4611686018427387904 := by
        have h1 := HN.out
        have h2 := HA.out
        have h3 := H.out.2.2
        omega
      clear hst hle hct hcl hsum hrd hm hx
      go_wp2
      go_roundw
      case rel => exact ⟨N + m, i + 1, by first | rfl | go_num, by first | rfl | go_num, by omega, (by first | trivial | rfl), (by have h1 := HN.out; have h2 := HA.out; show _ = _; omega), hNm⟩
      case measure => simp [intOf]; omega
    · obtain rfl : i = n := by omega
      have hwr := HW.out
      subst hwr
      go_wp2
      go_ret
      refine ⟨?_, rfl⟩
      have h1 := HN.out
      rw [List.take_of_length_le (by rw [H.out.2.1]; omega)] at h1
      have h2 := size_count L
      have h3 := H.out.2.1
      unfold sizeR at h1 ⊢
      have : N = sizeN (lens L) := by omega
      rw [this]
      rfl
theorem FreshL.fr {F : Nat → Prop} {B : Nat} {w w' : World} {a : Option Addr} {n c : Nat} {L : List (List Int)} (h : FreshL B w a n c L) (hf : Fr F w w') (hd : ∀ k, B ≤ k → ¬ F k) : FreshL B w' a n c L := by
  obtain ⟨vs, h1, h2, h3, h4⟩ := h
  exact ⟨vs, own_fr h1 hf (fun k e => hd k (h1.lt k e).1), h2, fun i x hx => by obtain ⟨v, e1, e2⟩ := h3 i x hx; exact ⟨v, e1, own_fr e2 hf (fun k e => hd k (e2.lt k e).1)⟩, h4⟩
theorem FreshL.mono {B B' : Nat} {w : World} {a : Option Addr} {n c : Nat} {L : List (List Int)} (h : FreshL B w a n c L) (hB : B' ≤ B) : FreshL B' w a n c L := by
  obtain ⟨vs, h1, h2, h3, h4⟩ := h
  exact ⟨vs, own_mono h1 hB, h2, fun i x hx => by obtain ⟨v, e1, e2⟩ := h3 i x hx; exact ⟨v, e1, own_mono e2 hB⟩, h4⟩
/-- what a register holds, as a value -/
def rgV (k : Int) (a : Option Addr) (n c : Nat) : Value := .agg #[.int .i64 k, .slice a n c]
/-- a box with a register in it at b, another one behind it -/
structure Fou (b : Nat) (v0 v1 u0 u1 : Value) (W : World) : Prop where
  c0 : W.cell? ⟨b, 0, none⟩ = some v0
  c1 : W.cell? ⟨b, 1, none⟩ = some v1
  d0 : W.cell? ⟨b + 1, 0, none⟩ = some u0
  d1 : W.cell? ⟨b + 1, 1, none⟩ = some u1
  y0 : W.frozen? ⟨b, 0, none⟩ = false
  y1 : W.frozen? ⟨b, 1, none⟩ = false
  z0 : W.frozen? ⟨b + 1, 0, none⟩ = false
  z1 : W.frozen? ⟨b + 1, 1, none⟩ = false
  l0 : b < W.heap.size
  l1 : b + 1 < W.heap.size
theorem fou_new (w : World) (v0 v1 u0 u1 : Value) : ∀ W, Below (w.heap.size + 2) ((w.alloc (.cells #[v0, v1] 31)).alloc (.cells #[u0, u1] 31)) W → Fou w.heap.size v0 v1 u0 u1 W := by
  intro W hW
  have g1 : ((w.alloc (.cells #[v0, v1] 31)).alloc (.cells #[u0, u1] 31)).heap[w.heap.size]? = some (.cells #[v0, v1] 31 (0, 0)) := by
    rw [Below.heap_alloc _ _ _ (by simp), heap_alloc_new]
  have g2 : ((w.alloc (.cells #[v0, v1] 31)).alloc (.cells #[u0, u1] 31)).heap[w.heap.size + 1]? = some (.cells #[u0, u1] 31 (0, 0)) := by
    have := heap_alloc_new (w.alloc (.cells #[v0, v1] 31)) (.cells #[u0, u1] 31)
    simpa using this
  have h1 := (hW.block w.heap.size (by omega)).trans g1
  have h2 := (hW.block (w.heap.size + 1) (by omega)).trans g2
  exact ⟨cell_row h1 0, cell_row h1 1, cell_row h2 0, cell_row h2 1, frozen_row h1 0, frozen_row h1 1, frozen_row h2 0, frozen_row h2 1, heap_lt h1, heap_lt h2⟩
set_option maxHeartbeats 1000000 in
theorem rtwinR_any (F : Nat → Prop) (k : Int) (a : Option Addr) (n c : Nat) (L : List (List Int)) (w : World) (h : RdL F w a n c L) (hs : sizeR L ≤ 1048576) :
    Calls Try.prog 14 #[rgV k a n c] w fun e w' => ∃ a' c', e = .returned (rgV k a' n c') ∧ FreshL w.heap.size w' a' n c' L ∧ Below w.heap.size w w' := by
  unfold rgV
  obtain ⟨wb, hwb⟩ : ∃ wb, (w.alloc (.cells #[.int .i64 k, .slice a n c] 31)).alloc (.cells #[.int .i64 0, .slice none 0 0] 31) = wb := ⟨_, rfl⟩
  have hfou := fou_new w (.int .i64 k) (.slice a n c) (.int .i64 0) (.slice none 0 0)
  rw [hwb] at hfou
  have hsz : wb.heap.size = w.heap.size + 2 := by rw [← hwb]; simp
  have hB : Below w.heap.size w wb := by rw [← hwb]; exact ((Below.refl _ _).alloc (Nat.le_refl _) _).alloc (by simp) _
  rw [← hsz] at hfou
  have HT : Hid (∀ W, Hid (Below wb.heap.size wb W) → Calls Try.prog 28 #[.slice a n c] W fun e w' => ∃ a' c', e = .returned (.slice a' n c') ∧ Fou w.heap.size (.int .i64 k) (.slice a n c) (.int .i64 0) (.slice none 0 0) w' ∧ Hid (FreshL wb.heap.size w' a' n c' L ∧ Below wb.heap.size wb w')) := by
    intro W hW
    have hs1 := hW.out.size
    refine (rtwin_any F a n c L W (h.below (hB.trans (hW.out.mono (by omega)))) hs).mono ?_
    rintro e w' ⟨a1, c1, rfl, hf, hb⟩
    have hb2 := hW.out.trans (hb.mono hs1)
    exact ⟨a1, c1, rfl, hfou w' hb2, hf.mono hs1, hb2⟩
  have hx := hfou wb (Below.refl _ _)
  have hxd := hfou wb.drew (Below.refl _ _).drew
  have HR0 : Hid (Below wb.heap.size wb wb) := Below.refl _ _
  have HR1 : Hid (Below wb.heap.size wb wb.drew) := (Below.refl _ _).drew
  have HB := Lib.hid (And.intro hB hsz)
  have HW := Lib.hid hwb
  clear h hwb hB hfou hsz
  obtain ⟨b, hbe⟩ : ∃ b, w.heap.size = b := ⟨_, rfl⟩
  have HBE := Lib.hid hbe
  rw [hbe] at hx hxd HT
  clear hbe
  obtain ⟨c0, c1, d0, d1, y0, y1, z0, z1, l0, l1⟩ := hx
  go_enter Try.func14, Try.ntmps14
  go_upto_region 1 with fail
  rw [HW.out, HBE.out]
  go_region_with (go_at_call 28; (with_reducible refine (HT.out _ (by first | exact HR0 | exact HR1)).mono ?_); rintro e w1 ⟨a1, m1, rfl, ⟨e0, e1, f0, f1, x0, x1, x2, x3, j0, j1⟩, q1⟩)
  all_goals
    go_wp2_with fail
    (try simp only [Exit.inBlock, Exit.then])
    refine bodyPost_ret (v := .agg #[.int .i64 k, .slice a1 n m1]) ?_ rfl ⟨_, _, rfl, ?_⟩
    · rw [results_cell1 rfl]
      go_simp
    · rw [← HBE.out]
      have hf : Fr (fun k => k = w.heap.size + 1) w1 ((w1.setCell ⟨w.heap.size + 1, 0, none⟩ (.int .i64 k)).setCell ⟨w.heap.size + 1, 1, none⟩ (.slice a1 n m1)) := ((Fr.refl (fun k => k = w.heap.size + 1) w1).setCell ⟨w.heap.size + 1, 0, none⟩ _ (fun _ => rfl)).setCell ⟨w.heap.size + 1, 1, none⟩ _ (fun _ => rfl)
      refine ⟨(q1.out.1.fr hf (fun k h1 h2 => by have := HB.out.2; omega)).mono (by have := HB.out.2; omega), ?_⟩
      have h2 := HB.out
      refine Below.setCell (Below.setCell (h2.1.trans (q1.out.2.mono (by omega))) ?_ _) ?_ _ <;> simp
set_option maxHeartbeats 1000000 in
theorem rsameR_any (F G : Nat → Prop) (k1 k2 : Int) (a1 a2 : Option Addr) (n1 n2 c1 c2 : Nat) (L M : List (List Int)) (w : World) (h1 : RdL F w a1 n1 c1 L) (h2 : RdL G w a2 n2 c2 M) :
    Calls Try.prog 13 #[rgV k1 a1 n1 c1, rgV k2 a2 n2 c2] w fun e w' => e = .returned (.bool (decide (k1 = k2) && decide (L = M))) ∧ Below w.heap.size w w' := by
  unfold rgV
  obtain ⟨wb, hwb⟩ : ∃ wb, (w.alloc (.cells #[.int .i64 k1, .slice a1 n1 c1] 31)).alloc (.cells #[.int .i64 k2, .slice a2 n2 c2] 31) = wb := ⟨_, rfl⟩
  have hfou := fou_new w (.int .i64 k1) (.slice a1 n1 c1) (.int .i64 k2) (.slice a2 n2 c2)
  rw [hwb] at hfou
  have hsz : wb.heap.size = w.heap.size + 2 := by rw [← hwb]; simp
  have hB : Below w.heap.size w wb := by rw [← hwb]; exact ((Below.refl _ _).alloc (Nat.le_refl _) _).alloc (by simp) _
  rw [← hsz] at hfou
  have HS := Lib.hid (rsame_any F G a1 a2 n1 n2 c1 c2 L M wb (h1.below hB) (h2.below hB))
  have hx := hfou wb (Below.refl _ _)
  have HB := Lib.hid (And.intro hB hsz)
  have HW := Lib.hid hwb
  clear h1 h2 hwb hB hfou hsz
  obtain ⟨b, hbe⟩ : ∃ b, w.heap.size = b := ⟨_, rfl⟩
  have HBE := Lib.hid hbe
  rw [hbe] at hx
  clear hbe
  obtain ⟨c0, c1', d0, d1, y0, y1, z0, z1, l0, l1⟩ := hx
  by_cases hk : k1 = k2
  · have q : (k1 == k2) = true := by simpa using hk
    have HK := Lib.hid hk
    clear hk
    go_enter Try.func13, Try.ntmps13
    go_upto_region 1 with fail
    rw [HW.out, HBE.out]
    go_wp2_with (go_at_call 27; refine HS.out.mono ?_; rintro e w1 ⟨rfl, hbw⟩)
    go_ret
    exact ⟨ret_boolG (by simp [HK.out]), HB.out.1.trans (hbw.mono (by have := HB.out.2; omega))⟩
  · have q : (k1 == k2) = false := by simpa using hk
    have HK := Lib.hid hk
    clear hk
    go_enter Try.func13, Try.ntmps13
    go_upto_region 1 with fail
    rw [HW.out, HBE.out]
    go_wp2_with fail
    go_ret
    exact ⟨ret_boolG (by simp [HK.out]), HB.out.1⟩
end Go.Proofs.Ytleidcegbfnmkaa.U
