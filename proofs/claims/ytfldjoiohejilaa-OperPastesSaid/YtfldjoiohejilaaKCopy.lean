/-
  allCopied, Concat of lines, replaced.
-/
import Derived.Test.YtfldjoiohejilaaKCat
namespace Go.Proofs.Ytfldjoiohejilaa.U
open Go.RowKit
set_option linter.unusedVariables false
set_option linter.unusedSimpArgs false
set_option maxRecDepth 100000

/-- anywhere -/
def TT : Nat → Prop := fun _ => True
theorem RdL.tt {F : Nat → Prop} {w : World} {a : Option Addr} {n c : Nat} {L : List (List Int)} (h : RdL F w a n c L) : RdL TT w a n c L := h.mono fun _ _ => trivial
theorem made_fresh {B g n : Nat} {L : List (List Int)} {w wr : World} (h : MadeS B g n n L w wr) (hB : B ≤ g) (hL : L.length = n) (hn : n ≤ 1073741824) : FreshL B wr (some ⟨g, 0, none⟩) n n L := by
  obtain ⟨cur, hg, hcl, s3, s4, hb⟩ := h
  have ho := own_of (B := B) (n := n) (cap := n) (size := 1) hg hB (Nat.le_refl _) (by unfold maxLen; omega) (by rw [List.size_toArray, hcl]; omega)
  rw [Nat.mul_one] at ho
  refine ⟨cur.take n, ho, by rw [List.length_take, hL]; omega, fun i x hx => ?_, fun i j vi vj hij hi hj => ?_⟩
  · have hil : i < n := by have := (List.getElem?_eq_some_iff.1 hx).1; omega
    obtain ⟨v, q1, q2⟩ := s3 i x hil hx
    exact ⟨v, by rw [List.getElem?_take, if_pos hil]; exact q1, q2⟩
  · rw [List.getElem?_take] at hi hj
    split at hj
    · next hjk =>
      rw [if_pos (by omega)] at hi
      exact s4 i j vi vj hij hjk hi hj
    · cases hj
theorem made_start (w : World) (n : Nat) (L : List (List Int)) (W : World) (hW : W = w.alloc (.cells (madeCells #[.slice none 0 0] n) 35)) : MadeS w.heap.size w.heap.size n 0 L w W := by
  subst hW
  refine ⟨(madeCells #[.slice none 0 0] n).toList, by simpa using heap_alloc_new w _, by rw [Array.length_toList, size_madeCells], fun i x hi => by omega, fun i j vi vj hij hj => by omega, bal _ _⟩
set_option maxHeartbeats 2000000 in
theorem kcopies_any (F : Nat → Prop) (a : Option Addr) (n c : Nat) (L : List (List Int)) (w : World) (h : RdL F w a n c L) (hs : sizeN (lens L) ≤ 1073741824) :
    Calls Try.prog 81 #[.slice a n c] w fun e w' => ∃ a' c', e = .returned (.slice a' n c') ∧ FreshL w.heap.size w' a' n c' L ∧ Below w.heap.size w w' := by
  have hl := h.len
  have hsm := h.small
  have hcnt := size_count L
  have hn : n ≤ 1073741824 := by omega
  have hmk := makeL w n hn
  have HST : Hid (MadeS w.heap.size w.heap.size n 0 L w (w.alloc (.cells (madeCells #[.slice none 0 0] n) 35))) := made_start w n L _ rfl
  have H := Lib.hid (And.intro h hl)
  have HS : Hid (∀ i, sizeN (lens (L.take i)) ≤ 1073741824) := fun i => Nat.le_trans (size_take_le L i) hs
  clear h hl hs hcnt
  obtain ⟨g, hg⟩ : ∃ g, w.heap.size = g := ⟨_, rfl⟩
  have HG := Lib.hid hg
  rw [hg] at HST hmk ⊢
  clear hg
  go_enter Try.func81, Try.ntmps81
  go_wp2_with fail
  go_loopw [11] (fun v11 wr => ∃ k : Nat, v11 = .int .i64 k ∧ k ≤ n ∧ Hid (MadeS g g n k L w wr)) (fun v11 _ => n - (intOf v11).toNat)
  case atStart => exact ⟨0, rfl, Nat.zero_le _, HST⟩
  case round =>
    obtain ⟨k, rfl, hk, hst⟩ := hrel
    clear HST
    by_cases hlt : k < n
    · obtain ⟨x, hx⟩ : ∃ x, L[k]? = some x := ⟨_, List.getElem?_eq_getElem (by have := H.out.2; omega)⟩
      obtain ⟨cur, hgc, hcl, s3, s4, hb⟩ := hst.out
      obtain ⟨b, off, xa, xc, rfl, hbl, _, hc, hrd, _⟩ := H.out.1.get (by have := HG.out; rw [this]; exact hb) hx
      have hbr : b < wr.heap.size := by have := hb.size; omega
      have hgl := heap_lt hgc
      have hxl : x.length ≤ 1073741824 := by have h1 := size_take hx; have h2 := HS.out (k + 1); omega
      have HC : Hid (∀ W, W = wr → Calls Try.prog 41 #[.slice xa x.length xc] W fun e w' => ∃ a' c', e = .returned (.slice a' x.length c') ∧ (∃ u, w'.cell? ⟨g, k, none⟩ = some u) ∧ w'.frozen? ⟨g, k, none⟩ = false ∧ g < w'.heap.size ∧ Hid (MadeS g g n (k + 1) L w (w'.setCell ⟨g, k, none⟩ (.slice a' x.length c')))) := by
        rintro W rfl
        refine (copied_rd xa x.length xc x W hrd (by omega)).mono ?_
        rintro e w' ⟨a', c', rfl, ho, hb2⟩
        have hg2 := (hb2.block g hgl).trans hgc
        exact ⟨a', c', rfl, ⟨_, (cell_row hg2 k).trans (Array.getElem?_eq_getElem (by simp; omega))⟩, frozen_row hg2 k, heap_lt hg2, hst.out.step hlt hx ho hb2 (Nat.le_refl _) (by omega)⟩
      obtain ⟨y, hy⟩ : ∃ y, x.length = y := ⟨_, rfl⟩
      rw [hy] at hc HC
      clear hx hrd hst hgc hcl s3 s4 hb hy hxl hgl hbl
      go_wp2_with (go_at_call 41; (refine (HC.out _ rfl).mono ?_); rintro e w1 ⟨a2, c2, rfl, ⟨u, hu⟩, q1, q2, HN⟩)
      go_roundw
      case rel => exact ⟨k + 1, by go_num, by omega, HN⟩
      case measure => simp [intOf]; omega
    · obtain rfl : k = n := by omega
      have HF : Hid (FreshL g wr (some ⟨g, 0, none⟩) k k L ∧ Below g w wr) := ⟨made_fresh hst.out (Nat.le_refl _) H.out.2 hn, by obtain ⟨_, _, _, _, _, hb⟩ := hst.out; exact hb⟩
      clear hst
      go_wp2_with fail
      go_ret
      exact ⟨_, _, rfl, HF.out⟩
set_option maxHeartbeats 2000000 in
theorem kcatL (F : Nat → Prop) (bp : Nat) (a1 a2 a3 : Option Addr) (n1 c1 n2 c2 n3 c3 : Nat) (L1 L2 L3 : List (List Int)) (w : World)
    (hp0 : w.cell? ⟨bp, 0, none⟩ = some (.slice a1 n1 c1)) (hp1 : w.cell? ⟨bp, 1, none⟩ = some (.slice a2 n2 c2)) (hp2 : w.cell? ⟨bp, 2, none⟩ = some (.slice a3 n3 c3))
    (h1 : RdL F w a1 n1 c1 L1) (h2 : RdL F w a2 n2 c2 L2) (h3 : RdL F w a3 n3 c3 L3) (hbig : n1 + n2 + n3 ≤ 1099511627776) :
    Calls Try.prog 80 #[.slice (some ⟨bp, 0, none⟩) 3 3] w fun e w' => ∃ a c, e = .returned (.slice a (n1 + n2 + n3) c) ∧
      RdL (fun x => F x ∨ w.heap.size ≤ x) w' a (n1 + n2 + n3) c (L1 ++ L2 ++ L3) ∧ Below w.heap.size w w' := by
  obtain ⟨us, r1, -, k1⟩ := h1
  obtain ⟨vs, r2, -, k2⟩ := h2
  obtain ⟨xs, r3, -, k3⟩ := h3
  obtain ⟨i0, hi, hz0, hz1, hz2⟩ := info_parts infoS
  have hbp : bp < w.heap.size := block_lt_of_cell hp0
  have HK : Hid (RowsAt F w (us ++ vs ++ xs) (L1 ++ L2 ++ L3)) := (k1.append k2).append k3
  have O1 := Lib.hid k1.one1
  have O2 := Lib.hid k2.one1
  have O3 := Lib.hid k3.one1
  have R1 := Lib.hid r1
  have R2 := Lib.hid r2
  have R3 := Lib.hid r3
  clear k1 k2 k3 r1 r2 r3
  go_enter Try.func80, Try.ntmps80
  go_wp2_with fail
  go_loop [3, 11] (fun s i => ∃ k : Nat, k ≤ 3 ∧ i = .int .i64 k ∧ s = .int .i64 (if k = 0 then 0 else if k = 1 then n1 else if k = 2 then n1 + n2 else n1 + n2 + n3)) (fun _ i => 3 - (intOf i).toNat)
  case atStart => exact ⟨0, by omega, rfl, rfl⟩
  case round =>
    obtain ⟨k, hk, rfl, rfl⟩ := hrel
    by_cases k0 : k = 0
    · subst k0
      go_wp2_with fail
      go_round
      case rel => exact ⟨1, by omega, rfl, rfl⟩
      case measure => simp [intOf]
    by_cases k1 : k = 1
    · subst k1
      go_wp2_with fail
      go_round
      case rel => exact ⟨2, by omega, rfl, rfl⟩
      case measure => simp [intOf]
    by_cases k2 : k = 2
    · subst k2
      go_wp2_with fail
      go_round
      case rel => exact ⟨3, by omega, rfl, rfl⟩
      case measure => simp [intOf]
    · obtain rfl : k = 3 := by omega
      clear k0 k1 k2
      go_wp2_with fail
      refine (growS_any _ (n1 + n2 + n3) _ (by simp) hbig).mono ?_
      rintro e w1 ⟨v1, rfl, hown1, hb1⟩
      have hB := hb1.size
      go_wp2_with fail
      go_loopw [6, 27] (fun v i wr => ∃ k : Nat, k ≤ 3 ∧ i = .int .i64 k ∧ Hid (wr.ownsRow w.heap.size 35 1 v (if k = 0 then 0 else if k = 1 then n1 else if k = 2 then n1 + n2 else n1 + n2 + n3) (if k = 0 then [] else if k = 1 then us else if k = 2 then us ++ vs else us ++ vs ++ xs)) ∧ Below w.heap.size w wr) (fun _ i _ => 3 - (intOf i).toNat)
      case atStart => exact ⟨0, by omega, rfl, hown1, hb1⟩
      case round =>
        obtain ⟨k, hk, rfl, ho, hbl⟩ := hrel
        have hp0' := (hbl.cell (p := ⟨bp, 0, none⟩) hbp).trans hp0
        have hp1' := (hbl.cell (p := ⟨bp, 1, none⟩) hbp).trans hp1
        have hp2' := (hbl.cell (p := ⟨bp, 2, none⟩) hbp).trans hp2
        have H1 := Lib.hid (R1.out.below hbl)
        have H2 := Lib.hid (R2.out.below hbl)
        have H3 := Lib.hid (R3.out.below hbl)
        have hsz := hbl.size
        by_cases k0 : k = 0
        · subst k0
          have ho' := ho.out
          simp only [↓reduceIte] at ho'
          clear ho
          go_wp2_with (at_builtin; go_must (refine wpList_appRc rfl _ _ 22 rfl w.heap.size 35 i0 (.slice none 0 0) 24 Try.underlying22 hi hz0 hz1 hz2 rfl _ _ _ rfl ho' _ _ _ us rfl H1.out O1.out ?d1 ?d2 ?d3 ?_))
          case d1 => unfold maxLen; omega
          case d2 => omega
          case d3 => omega
          intro v2 w2 ho2 hb2
          go_wp2
          go_roundw
          case rel => exact ⟨1, by omega, rfl, (by show World.ownsRow _ _ _ _ _ _ _; simpa using ho2), hbl.trans hb2⟩
          case measure => simp [intOf]
        by_cases k1 : k = 1
        · subst k1
          have ho' := ho.out
          simp only [↓reduceIte, Nat.one_ne_zero] at ho'
          clear ho
          go_wp2_with (at_builtin; go_must (refine wpList_appRc rfl _ _ 22 rfl w.heap.size 35 i0 (.slice none 0 0) 24 Try.underlying22 hi hz0 hz1 hz2 rfl _ _ _ rfl ho' _ _ _ vs rfl H2.out O2.out ?d1 ?d2 ?d3 ?_))
          case d1 => unfold maxLen; omega
          case d2 => omega
          case d3 => omega
          intro v2 w2 ho2 hb2
          go_wp2
          go_roundw
          case rel => exact ⟨2, by omega, rfl, (by show World.ownsRow _ _ _ _ _ _ _; simpa using ho2), hbl.trans hb2⟩
          case measure => simp [intOf]
        by_cases k2 : k = 2
        · subst k2
          have ho' := ho.out
          simp only [↓reduceIte, show ¬ (2 = 0) from by decide, show ¬ (2 = 1) from by decide] at ho'
          clear ho
          go_wp2_with (at_builtin; go_must (refine wpList_appRc rfl _ _ 22 rfl w.heap.size 35 i0 (.slice none 0 0) 24 Try.underlying22 hi hz0 hz1 hz2 rfl _ _ _ rfl ho' _ _ _ xs rfl H3.out O3.out ?d1 ?d2 ?d3 ?_))
          case d1 => unfold maxLen; omega
          case d2 => omega
          case d3 => omega
          intro v2 w2 ho2 hb2
          go_wp2
          go_roundw
          case rel => exact ⟨3, by omega, rfl, (by show World.ownsRow _ _ _ _ _ _ _; simpa using ho2), hbl.trans hb2⟩
          case measure => simp [intOf]
        · obtain rfl : k = 3 := by omega
          clear k0 k1 k2
          have ho' := ho.out
          simp only [↓reduceIte, show ¬ (3 = 0) from by decide, show ¬ (3 = 1) from by decide, show ¬ (3 = 2) from by decide] at ho'
          clear ho
          obtain ⟨a', c', rfl⟩ := own_slice ho'
          have HO : Hid (RdL (fun x => F x ∨ w.heap.size ≤ x) wr a' (n1 + n2 + n3) c' (L1 ++ L2 ++ L3)) := ⟨_, Rc.own ho', InF.own ho' (fun k e => .inr (ho'.lt k e).1), (HK.out.below hbl).mono (fun k hk => .inl hk)⟩
          clear ho'
          go_wp2
          go_ret
          exact ⟨_, _, rfl, HO.out, hbl⟩
end Go.Proofs.Ytfldjoiohejilaa.U
