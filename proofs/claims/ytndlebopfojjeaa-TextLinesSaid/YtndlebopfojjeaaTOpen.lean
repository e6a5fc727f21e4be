/-
  Rows of the caller's own, written over; the law's open.
  The document's Split.
-/
import Derived.Test.YtndlebopfojjeaaTRefN
namespace Go.Proofs.Ytndlebopfojjeaa.U
open Go.RowKit
set_option linter.unusedVariables false
set_option linter.unusedSimpArgs false
set_option maxRecDepth 100000

/-- a row of runes of the caller's own, whatever lies in it; its block lies in [B, s) -/
def AnyRow (B s : Nat) (w : World) (v : Value) (m : Nat) : Prop := ∃ xs, w.ownsRow B 21 1 v m xs ∧ ∀ k, v.ownBlock = some k → k < s
theorem AnyRow.fr {F : Nat → Prop} {B s m : Nat} {w w' : World} {v : Value} (h : AnyRow B s w v m) (hf : Fr F w w') (hk : ∀ k, v.ownBlock = some k → ¬ F k) : AnyRow B s w' v m := by
  obtain ⟨xs, h, h2⟩ := h
  exact ⟨xs, own_fr h hf hk, h2⟩
theorem AnyRow.below {B s m : Nat} {w w' : World} {v : Value} (h : AnyRow B s w v m) (hb : Below w.heap.size w w') : AnyRow B s w' v m := h.fr (Fr.of_below (fun _ => False) hb) (fun _ _ h => h)
theorem AnyRow.set {B s m : Nat} {w : World} {v : Value} (h : AnyRow B s w v m) (g j : Nat) (u : Value) : AnyRow B s (w.setCell ⟨g, j, none⟩ u) v m := by
  obtain ⟨xs, ⟨h1, h2⟩, h3⟩ := h
  rcases h2 with ⟨rfl, rfl⟩ | ⟨g', cap, cur, rfl, hb, hg, hn, hc, hs, ht⟩
  · exact ⟨xs, ⟨h1, .inl ⟨rfl, rfl⟩⟩, h3⟩
  · by_cases e : g' = g
    · subst e
      refine ⟨(cur.setIfInBounds j u).toList.take (m * 1), ⟨?_, .inr ⟨g', cap, _, rfl, hb, heap_set hg j u, hn, hc, by simpa using hs, rfl⟩⟩, h3⟩
      rw [List.length_take, Array.length_toList, Array.size_setIfInBounds]; omega
    · exact ⟨xs, ⟨h1, .inr ⟨g', cap, cur, rfl, hb, (Below.heap_setCell _ _ _ _ (by simp only; omega)).trans hg, hn, hc, hs, ht⟩⟩, h3⟩
theorem AnyRow.get {B s m rc j : Nat} {w : World} {ra : Option Addr} (h : AnyRow B s w (.slice ra m rc) m) (hj : j < m) : ∃ g cur, ra = some ⟨g, 0, none⟩ ∧ B ≤ g ∧ g < s ∧ w.heap[g]? = some (.cells cur 21 (0, 0)) ∧ (∃ u, w.cell? ⟨g, j, none⟩ = some u) ∧ w.frozen? ⟨g, j, none⟩ = false ∧ g < w.heap.size := by
  obtain ⟨xs, ⟨h1, h2⟩, h3⟩ := h
  rcases h2 with ⟨e, rfl⟩ | ⟨g, cap, cur, e, hb, hg, hn, hc, hs, ht⟩
  · omega
  · injection e with e1 e2 e3
    subst e1
    exact ⟨g, cur, rfl, hb, h3 g rfl, hg, ⟨_, (cell_row hg j).trans (Array.getElem?_eq_getElem (by omega))⟩, frozen_row hg j, heap_lt hg⟩

/-- rows of the caller's own, whatever lies in them -/
def MineL (B s : Nat) (w : World) (a : Option Addr) (n c : Nat) (ls : List Nat) : Prop :=
  ∃ vs, w.ownsRow B 31 1 (.slice a n c) n vs ∧ vs.length = ls.length ∧ ∀ (i m : Nat), ls[i]? = some m → ∃ v, vs[i]? = some v ∧ AnyRow B s w v m
theorem FreshL.mine {B n c : Nat} {w : World} {a : Option Addr} {L : List (List Int)} (h : FreshL B w a n c L) : MineL B w.heap.size w a n c (lens L) := by
  obtain ⟨vs, h1, h2, h3, h4⟩ := h
  refine ⟨vs, h1, by rw [lens_len]; exact h2, fun i m hm => ?_⟩
  unfold lens at hm
  rw [List.getElem?_map] at hm
  cases hx : L[i]? with
  | none => rw [hx] at hm; cases hm
  | some x =>
    rw [hx] at hm
    cases hm
    obtain ⟨v, e1, e2⟩ := h3 i x hx
    exact ⟨v, e1, _, e2, fun k e => (e2.lt k e).2⟩
theorem MineL.len {B s n c : Nat} {w : World} {a : Option Addr} {ls : List Nat} (h : MineL B s w a n c ls) : ls.length = n := by
  obtain ⟨vs, h1, h2, _⟩ := h
  have := h1.1
  omega
theorem MineL.below {B s n c : Nat} {w w' : World} {a : Option Addr} {ls : List Nat} (h : MineL B s w a n c ls) (hb : Below w.heap.size w w') : MineL B s w' a n c ls := by
  obtain ⟨vs, h1, h2, h3⟩ := h
  exact ⟨vs, own_fr h1 (Fr.of_below (fun _ => False) hb) (fun _ _ h => h), h2, fun i m hm => by obtain ⟨v, e1, e2⟩ := h3 i m hm; exact ⟨v, e1, e2.below hb⟩⟩
theorem MineL.set {B s n c g : Nat} {w : World} {a : Option Addr} {ls : List Nat} {cur : Array Value} (h : MineL B s w a n c ls) (hg : w.heap[g]? = some (.cells cur 21 (0, 0))) (j : Nat) (u : Value) : MineL B s (w.setCell ⟨g, j, none⟩ u) a n c ls := by
  obtain ⟨vs, h1, h2, h3⟩ := h
  refine ⟨vs, own_fr h1 ((Fr.refl (fun k => k = g) _).setCell _ _ (fun _ => rfl)) (fun k e => row_block_apart h1 hg (by decide) e), h2, fun i m hm => ?_⟩
  obtain ⟨v, e1, e2⟩ := h3 i m hm
  exact ⟨v, e1, e2.set g j u⟩
theorem MineL.get {B s n c i m : Nat} {w : World} {a : Option Addr} {ls : List Nat} (h : MineL B s w a n c ls) (hm : ls[i]? = some m) : ∃ g ra rc, a = some ⟨g, 0, none⟩ ∧ g < w.heap.size ∧ B ≤ g ∧ w.cell? ⟨g, i, none⟩ = some (.slice ra m rc) ∧ AnyRow B s w (.slice ra m rc) m := by
  obtain ⟨vs, h1, h2, h3⟩ := h
  obtain ⟨v, e1, e2⟩ := h3 i m hm
  have hi : i < vs.length := (List.getElem?_eq_some_iff.1 e1).1
  obtain ⟨ra, rc, rfl⟩ : ∃ ra rc, v = .slice ra m rc := by obtain ⟨_, e2, _⟩ := e2; exact own_slice e2
  rcases h1.2 with ⟨e, e0⟩ | ⟨g, cap, cur, e, hb, hg, hn, hc, hs, ht⟩
  · have := h1.1; omega
  · injection e with e3 e4 e5
    subst e3
    refine ⟨g, ra, rc, rfl, heap_lt hg, hb, ?_, e2⟩
    rw [cell_row hg, ← e1, ← ht, List.getElem?_take, if_pos (by have := h1.1; omega)]
    simp

theorem RX.fr {P G : Nat → Prop} {w w' : World} {bx : Nat} {L : List (List Int)} (h : RX P w bx L) (hf : Fr G w w') (hd : ∀ k, P k → ¬ G k) : RX P w' bx L := by
  obtain ⟨la, n, lc, h1, h2, h3⟩ := h
  exact ⟨la, n, lc, (hf.block bx (heap_lt h1) (hd bx h3)).trans h1, h2.frF hf (fun k hk => hd k hk.1), h3⟩
theorem RX.below {P : Nat → Prop} {w w' : World} {bx : Nat} {L : List (List Int)} (h : RX P w bx L) (hb : Below w.heap.size w w') : RX P w' bx L := h.fr (Fr.of_below (fun _ => False) hb) (fun _ _ h => h)
theorem RX.mono {P G : Nat → Prop} {w : World} {bx : Nat} {L : List (List Int)} (h : RX P w bx L) (hg : ∀ k, P k → G k) : RX G w bx L := by
  obtain ⟨la, n, lc, h1, h2, h3⟩ := h
  exact ⟨la, n, lc, h1, h2.mono (fun k hk => ⟨hg k hk.1, hk.2⟩), hg _ h3⟩

/-- both texts, or none -/
def Both4 (s1 : Nat) (L : List (List Int)) (v6 v7 : Value) (w : World) : Prop :=
  (okL L = false ∧ v6 = .pointer none ∧ v7 = .pointer none) ∨
    (okL L = true ∧ ∃ bt bx s2, v6 = .pointer (some ⟨bt, 0, none⟩) ∧ v7 = .pointer (some ⟨bx, 0, none⟩) ∧ s1 ≤ s2 ∧ TX (fun k => s1 ≤ k ∧ k < s2) w bt (normL L) 0 ∧ RX (fun k => s2 ≤ k) w bx (normL L))
theorem Both4.fr {s1 : Nat} {L : List (List Int)} {v6 v7 : Value} {w w' : World} {G : Nat → Prop} (h : Both4 s1 L v6 v7 w) (hf : Fr G w w') (hd : ∀ k, G k → k < s1) : Both4 s1 L v6 v7 w' := by
  rcases h with h | ⟨h0, bt, bx, s2, h1, h2, h3, h4, h5⟩
  · exact .inl h
  · exact .inr ⟨h0, bt, bx, s2, h1, h2, h3, h4.fr hf (fun k hk hg => by have := hd k hg; omega), h5.fr hf (fun k hk hg => by have := hd k hg; omega)⟩
def OpenPost (w : World) (L : List (List Int)) (e : Ending) (w' : World) : Prop :=
  ∃ v6 v7 s1, e = .returned (.tuple #[v6, v7, .bool true]) ∧ w.heap.size ≤ s1 ∧ Both4 s1 L v6 v7 w' ∧ Below w.heap.size w w'

theorem sizeN_mem {l : List Nat} {m : Nat} (h : m ∈ l) : m ≤ sizeN l := by
  induction l with
  | nil => cases h
  | cons a r ih =>
    rw [sizeN_cons]
    rcases List.mem_cons.1 h with rfl | h
    · omega
    · have := ih h; omega
set_option maxHeartbeats 4000000 in
theorem open_any (F : Nat → Prop) (a : Option Addr) (n c : Nat) (L : List (List Int)) (w : World) (h : RdL F w a n c L) (hs : sizeN (lens L) ≤ 1048576) :
    Calls Try.prog 11 #[.slice a n c] w (OpenPost w L) := by
  have HTW := Lib.hid (rtwin_any F a n c L w h hs)
  have HWF := Lib.hid (lines_wf (rdl_wf h))
  have hl := h.len
  have hsm := h.small
  have H := Lib.hid h
  obtain ⟨B, hB⟩ : ∃ B, w.heap.size = B := ⟨_, rfl⟩
  have HBE := Lib.hid hB
  have HLL := Lib.hid hl
  clear h hB hl
  go_enter Try.func11, Try.ntmps11
  go_wp2_with fail
  refine HTW.out.mono ?_
  rintro e w1 ⟨a1, c1, rfl, hf, hb1⟩
  rw [HBE.out] at hf
  have hz1 := hb1.size
  have HR1 := Lib.hid (hf.rdl HWF.out)
  have HB1 : Hid (Below B w w1 ∧ B ≤ w1.heap.size) := ⟨by rw [← HBE.out]; exact hb1, by have := HBE.out; omega⟩
  have HH1 := Lib.hid (H.out.below hb1)
  obtain ⟨s1, hs1⟩ : ∃ s1, w1.heap.size = s1 := ⟨_, rfl⟩
  have HS1 := Lib.hid hs1
  have HM1 : Hid (MineL B s1 w1 a1 n c1 (lens L)) := by have := hf.mine; rw [hs1] at this; exact this
  have HBS : Hid (B ≤ s1) := by show _ ≤ _; rw [← hs1]; exact HB1.out.2
  clear HTW hf hb1 hz1 hs1
  go_upto_region 2 with fail
  go_cut [6, 7] (fun v6 v7 wx => Hid (Both4 s1 L v6 v7 wx ∧ Below w1.heap.size w1 wx))
  case first =>
    have HNW := Lib.hid (new_any _ a1 n c1 L w1 HR1.out hs)
    go_wp2_with fail
    refine HNW.out.mono ?_
    rintro e w2 (⟨hno, rfl, rfl⟩ | ⟨hok, bt, rfl, T2, hb2⟩)
    · have HN := Lib.hid (rnew_no _ a n c L w1 HH1.out hs hno)
      have HNO := Lib.hid hno
      clear HNW hno
      go_wp2_with (go_at_call 22; refine HN.out.mono ?_; rintro e w' ⟨rfl, rfl⟩)
      go_meet
      exact ⟨.inl ⟨HNO.out, rfl, rfl⟩, Below.refl _ _⟩
    · have HN := Lib.hid (rnew_ok _ a n c L w2 (HH1.out.below hb2) hs hok)
      have HOK : Hid (okL L = true ∧ TX (fun k => w1.heap.size ≤ k ∧ k < w2.heap.size) w2 bt (normL L) 0 ∧ Below w1.heap.size w1 w2) := ⟨hok, T2.bound, hb2⟩
      clear HNW hok T2 hb2
      go_wp2_with fail
      refine HN.out.mono ?_
      rintro e w3 ⟨bx, rfl, X3, hb3⟩
      have HX : Hid (Both4 s1 L (.pointer (some ⟨bt, 0, none⟩)) (.pointer (some ⟨bx, 0, none⟩)) w3 ∧ Below w1.heap.size w1 w3) := by
        obtain ⟨h1, h2, h3⟩ := HOK.out
        have := h3.size
        rw [HS1.out] at h2 this
        exact ⟨.inr ⟨h1, bt, bx, w2.heap.size, rfl, rfl, this, h2.below hb3, X3⟩, h3.trans (hb3.mono h3.size)⟩
      clear HN HOK X3 hb3
      go_wp2_with fail
      go_meet
      exact HX
  case rest =>
  obtain ⟨w3, hw3⟩ : ∃ x, x = wc := ⟨_, rfl⟩
  subst hw3
  have HC : Hid (Both4 s1 L u6 u7 w3 ∧ MineL B s1 w3 a1 n c1 (lens L) ∧ Below B w w3) := ⟨hcut.out.1, HM1.out.below hcut.out.2, HB1.out.1.trans (hcut.out.2.mono HB1.out.2)⟩
  clear hcut HM1 HB1 HR1 HH1
  go_wp2_with fail
  go_loopw [8, 9] (fun v8 v9 wr => ∃ i : Nat, v8 = .int .i64 i ∧ i ≤ n ∧ Hid (Both4 s1 L u6 u7 wr ∧ MineL B s1 wr a1 n c1 (lens L) ∧ Below B w wr)) (fun v8 _ _ => n - (intOf v8).toNat)
  case atStart => exact ⟨0, rfl, Nat.zero_le _, HC⟩
  case round =>
    obtain ⟨i, rfl, hi, hst⟩ := hrel
    clear HC
    by_cases hlt : i < n
    · obtain ⟨m, hm⟩ : ∃ m, (lens L)[i]? = some m := ⟨_, List.getElem?_eq_getElem (by rw [lens_len, HLL.out]; exact hlt)⟩
      have HMI := Lib.hid hm
      have hmb : m ≤ 1048576 := by
        obtain ⟨h1, h2⟩ := List.getElem?_eq_some_iff.1 hm
        have := sizeN_mem (List.getElem_mem h1)
        omega
      obtain ⟨wq, hwq⟩ : ∃ x, x = wr := ⟨_, rfl⟩
      subst hwq
      clear hm
      go_wp2_with fail
      go_loopw [9] (fun v9 wr => ∃ k : Nat, v9 = .int .i64 k ∧ k ≤ m ∧ Hid (Both4 s1 L u6 u7 wr ∧ MineL B s1 wr a1 n c1 (lens L) ∧ Below B w wr)) (fun v9 _ => m - (intOf v9).toNat)
      case atStart => exact ⟨0, rfl, Nat.zero_le _, hst⟩
      case round =>
        obtain ⟨k, rfl, hk, hin⟩ := hrel
        clear hst
        obtain ⟨g, ra, rc, rfl, hgl, hgB, hcell, hrow⟩ := hin.out.2.1.get HMI.out
        by_cases hlt2 : k < m
        · obtain ⟨g2, cur, rfl, h2B, h2s, h2g, ⟨u, h2c⟩, h2f, h2l⟩ := hrow.get hlt2
          have HN : Hid (Both4 s1 L u6 u7 (wr.setCell ⟨g2, k, none⟩ (.int .i32 7)) ∧ MineL B s1 (wr.setCell ⟨g2, k, none⟩ (.int .i32 7)) (some ⟨g, 0, none⟩) n c1 (lens L) ∧ Below B w (wr.setCell ⟨g2, k, none⟩ (.int .i32 7))) :=
            ⟨hin.out.1.fr (G := fun x => x = g2) ((Fr.refl _ _).setCell _ _ (fun _ => rfl)) (fun x e => by rw [e]; exact h2s), hin.out.2.1.set h2g k _, hin.out.2.2.setCell h2B _⟩
          clear hin hrow h2g
          go_wp2_with fail
          go_roundw
          case rel => exact ⟨k + 1, by go_num, by omega, HN⟩
          case measure => simp [intOf]; omega
        · obtain rfl : k = m := by omega
          clear hrow
          go_wp2_with fail
          go_roundw
          case rel => exact ⟨i + 1, by go_num, by omega, hin⟩
          case measure => simp [intOf]; omega
    · obtain rfl : i = n := by omega
      rcases hst.out.1 with ⟨h0, rfl, rfl⟩ | ⟨h0, bt, bx, s2, rfl, rfl, h4⟩
      · go_wp2_with fail
        go_ret3
        exact ⟨_, _, s1, rfl, by rw [HBE.out]; exact HBS.out, hst.out.1, by rw [HBE.out]; exact hst.out.2.2⟩
      · clear h4
        go_wp2_with fail
        go_ret3
        exact ⟨_, _, s1, rfl, by rw [HBE.out]; exact HBS.out, hst.out.1, by rw [HBE.out]; exact hst.out.2.2⟩
end Go.Proofs.Ytndlebopfojjeaa.U

namespace Go.Proofs.Ytndlebopfojjeaa.U
open Go.RowKit
set_option linter.unusedVariables false
set_option linter.unusedSimpArgs false
set_option maxRecDepth 100000

/-- one rune behind the last line -/
theorem fresh_last (w : World) (B k c : Nat) (a : Option Addr) (D : List (List Int)) (y : List Int) (z : Int) (h : FreshL B w a (k + 1) c (D ++ [y])) (hB : B ≤ w.heap.size) (hy : y.length ≤ 1048576) :
    ∃ g ra rc a' c' w3, a = some ⟨g, 0, none⟩ ∧ g < w.heap.size ∧ w.cell? ⟨g, k, none⟩ = some (.slice ra y.length rc) ∧
      (∀ ty, (Builtin.append_ #[31, 31] ty #[.slice ra y.length rc, .slice (some ⟨w.heap.size, 0, none⟩) 1 1]).run Try.prog (w.alloc (.cells #[.int .i32 z] 21)) = .ok (.slice a' (y.length + 1) c') w3) ∧
      (∃ u, w3.cell? ⟨g, k, none⟩ = some u) ∧ w3.frozen? ⟨g, k, none⟩ = false ∧ g < w3.heap.size ∧
      FreshL B (w3.setCell ⟨g, k, none⟩ (.slice a' (y.length + 1) c')) a (k + 1) c (D ++ [y ++ [z]]) ∧ Below B w (w3.setCell ⟨g, k, none⟩ (.slice a' (y.length + 1) c')) := by
  have hDl : D.length = k := by have := h.len; simp at this; omega
  obtain ⟨vs, h1, h2, h3, h4⟩ := h
  obtain ⟨i0, hi0, hz0, hz1, hz2⟩ := info_parts infoI
  have hyk : (D ++ [y])[k]? = some y := by rw [List.getElem?_append_right (by omega), hDl]; simp
  obtain ⟨v, e1, e2⟩ := h3 k y hyk
  obtain ⟨ra, rc, rfl⟩ := own_slice e2
  obtain ⟨w2, hw2⟩ : ∃ w2, w.alloc (.cells #[.int .i32 z] 21) = w2 := ⟨_, rfl⟩
  have hb2 : Below w.heap.size w w2 := by rw [← hw2]; exact (Below.refl _ _).alloc (Nat.le_refl _) _
  have hg2 : w2.heap[w.heap.size]? = some (.cells #[.int .i32 z] 21 (0, 0)) := by rw [← hw2]; exact heap_alloc_new w _
  have hsz2 : w2.heap.size = w.heap.size + 1 := by rw [← hw2]; simp
  have f02 : Fr (fun _ => False) w w2 := Fr.of_below (fun _ => False) hb2
  have e22 := own_fr e2 f02 (fun _ _ h => h)
  have h12 := own_fr h1 f02 (fun _ _ h => h)
  obtain ⟨v', w3, hrun, hown, hfr, hnear⟩ := run_append_own_k (P := Try.prog) w2 B 31 21 i0 _ 1 4 Try.underlying31 hi0 hz0 hz1 hz2 rfl (by decide) (.slice ra y.length rc) y.length (ints y) e22 (some ⟨w.heap.size, 0, none⟩) 1 1 [.int .i32 z] rfl
    (fun _ => ⟨_, rfl, fun j u hu => by rw [add_lit, cell_row hg2, Nat.zero_add]; simpa using hu⟩) (by intro u hu; simp only [List.mem_singleton] at hu; subst hu; rfl) (by unfold maxLen; omega) (by omega) (by omega)
  obtain ⟨a', c', rfl⟩ := own_slice hown
  have h13 := own_fr h12 hfr (fun k e hk => rows_apart h12 e22 (by decide) e hk)
  rcases h1.2 with ⟨_, e0⟩ | ⟨g, cap, cur, ev, hgB, hgw, hnc, hcm, hcs, htk⟩
  · omega
  injection ev with ev1 ev2 ev3
  subst ev1 ev3
  rcases h13.2 with ⟨_, e0⟩ | ⟨g', cap', cur', ev', hgB', hgw3, hnc', hcm', hcs', htk'⟩
  · omega
  injection ev' with ev1 ev2 ev3
  injection ev1 with ev1
  injection ev1 with ev1
  subst ev1 ev3
  have hvl : vs.length = k + 1 := by rw [h2]; simp [hDl]
  have hcell : w.cell? ⟨g, k, none⟩ = some (.slice ra y.length rc) := by
    rw [cell_row hgw, ← e1, ← htk, List.getElem?_take, if_pos (by omega)]
    simp
  refine ⟨g, ra, rc, a', c', w3, rfl, heap_lt hgw, hcell, by rw [hw2]; exact hrun, ⟨_, (cell_row hgw3 k).trans (Array.getElem?_eq_getElem (by omega))⟩, frozen_row hgw3 k, heap_lt hgw3, ?_, ?_⟩
  · have fset : Fr (fun x => x = g) w3 (w3.setCell ⟨g, k, none⟩ (.slice a' (y.length + 1) c')) := (Fr.refl _ _).setCell _ _ (fun _ => rfl)
    have far : ∀ {B' n' : Nat} {u : Value} {xs : List Value}, w3.ownsRow B' 21 1 u n' xs → (w3.setCell ⟨g, k, none⟩ (.slice a' (y.length + 1) c')).ownsRow B' 21 1 u n' xs := fun ho => own_fr ho fset (fun b e => row_block_apart ho hgw3 (by decide) e)
    refine ⟨vs.set k (.slice a' (y.length + 1) c'), ⟨by simp; omega, .inr ⟨g, c, _, rfl, hgB, heap_set hgw3 k _, hnc, hcm, by simpa using hcs', ?_⟩⟩, by simp [h2], ?_, ?_⟩
    · rw [Array.toList_setIfInBounds, List.take_set, htk']
    · intro i x hx
      by_cases hi : i < D.length
      · rw [List.getElem?_append_left hi] at hx
        have hx2 : (D ++ [y])[i]? = some x := by rw [List.getElem?_append_left hi]; exact hx
        obtain ⟨u, f1, f2⟩ := h3 i x hx2
        refine ⟨u, by rw [List.getElem?_set_ne (by omega)]; exact f1, far (own_fr (own_fr f2 f02 (fun _ _ h => h)) hfr (fun b e hb => ?_))⟩
        exact h4 i k _ _ (by omega) f1 e1 b e hb.symm
      · have hie : i = k := by
          have := (List.getElem?_eq_some_iff.1 hx).1
          simp at this; omega
        subst hie
        rw [List.getElem?_append_right (by omega), hDl] at hx
        simp at hx
        subst hx
        refine ⟨_, by rw [List.getElem?_set_self (by omega)], far ?_⟩
        have : (y ++ [z]).length = y.length + 1 := by simp
        rw [this]
        simpa [ints] using hown
    · intro i j vi vj hij f1 f2 b eb
      have hj := (List.getElem?_eq_some_iff.1 f2).1
      rw [List.length_set] at hj
      rw [List.getElem?_set_ne (by omega)] at f1
      by_cases hjk : j = k
      · subst hjk
        rw [List.getElem?_set_self (by omega)] at f2
        cases f2
        have hi : i < D.length := by omega
        rcases hnear with e | e
        · rw [e]; exact h4 i j _ _ hij f1 e1 b eb
        · rw [e]
          intro e3
          injection e3 with e3
          obtain ⟨u, f3, f4⟩ := h3 i _ (List.getElem?_eq_getElem (l := D ++ [y]) (i := i) (by simp; omega))
          rw [f1] at f3
          cases f3
          have := (f4.lt b eb).2
          omega
      · rw [List.getElem?_set_ne (by omega)] at f2
        exact h4 i j vi vj hij f1 f2 b eb
  · exact ((hb2.mono hB).trans (hfr.below (by omega) (fun x e => (e22.lt x e.symm).1))).setCell hgB _

theorem fresh_one (w : World) : FreshL w.heap.size (w.alloc (.cells #[.slice none 0 0] 31)) (some ⟨w.heap.size, 0, none⟩) 1 1 [[]] := by
  have ho := own_of (B := w.heap.size) (n := 1) (cap := 1) (size := 1) (heap_alloc_new w (.cells #[.slice none 0 0] 31)) (Nat.le_refl _) (Nat.le_refl _) (by unfold maxLen; omega) rfl
  refine ⟨_, ho, rfl, fun i x hx => ?_, fun i j vi vj hij e1 e2 b eb => ?_⟩
  · cases i with
    | zero => simp at hx; subst hx; exact ⟨_, rfl, World.ownsRow_nil _ _ _ _⟩
    | succ i => simp at hx
  · have := (List.getElem?_eq_some_iff.1 e2).1
    simp at this
    omega

set_option maxHeartbeats 4000000 in
theorem rsplit_any (a : Option Addr) (n c : Nat) (xs : List Int) (w : World) (h : Rd .i32 w a n c xs) (hn : n ≤ 1048576) :
    Calls Try.prog 53 #[.slice a n c] w fun e w' => ∃ a' c', e = .returned (.slice a' (splitL xs).length c') ∧ FreshL w.heap.size w' a' (splitL xs).length c' (splitL xs) ∧ Below w.heap.size w w' := by
  have hxl := h.1
  have HX := Lib.hid h
  have HXL := Lib.hid hxl
  obtain ⟨B, hB⟩ : ∃ B, w.heap.size = B := ⟨_, rfl⟩
  obtain ⟨w1, hw1⟩ : ∃ w1, w.alloc (.cells #[.slice none 0 0] 31) = w1 := ⟨_, rfl⟩
  have HST : Hid (FreshL B w1 (some ⟨B, 0, none⟩) 1 1 (splitL (xs.take 0)) ∧ Below B w w1) := by
    have h1 := fresh_one w
    have h2 : Below w.heap.size w (w.alloc (.cells #[.slice none 0 0] 31)) := (Below.refl _ _).alloc (Nat.le_refl _) _
    rw [hw1, hB] at h1 h2
    rw [List.take_zero]
    exact ⟨h1, h2⟩
  have HBE := Lib.hid hB
  have HW1 := Lib.hid hw1
  clear h hxl hw1
  rw [hB]
  clear hB
  go_enter Try.func53, Try.ntmps53
  go_upto_region 2 with fail
  (try rw [HBE.out])
  rw [HW1.out]
  go_wp2_with fail
  go_loopw [3, 4] (fun v3 v4 wr => ∃ (i k : Nat) (ra : Option Addr) (rc : Nat), v4 = .int .i64 i ∧ v3 = .slice ra k rc ∧ i ≤ n ∧ Hid (k = (splitL (xs.take i)).length ∧ FreshL B wr ra k rc (splitL (xs.take i)) ∧ Below B w wr)) (fun _ v4 _ => n - (intOf v4).toNat)
  case atStart => exact ⟨0, 1, _, _, rfl, rfl, Nat.zero_le _, by simp [splitL], HST.out.1, HST.out.2⟩
  case round =>
    obtain ⟨i, k, ra, rc, rfl, rfl, hi, hst⟩ := hrel
    clear HST
    by_cases hlt : i < n
    · obtain ⟨hk, hf, hb⟩ := hst.out
      obtain ⟨z, hz⟩ : ∃ z, xs[i]? = some z := ⟨_, List.getElem?_eq_getElem (by have := HXL.out; omega)⟩
      have hts : xs.take (i + 1) = xs.take i ++ [z] := by
        obtain ⟨hl, e⟩ := List.getElem?_eq_some_iff.1 hz
        rw [List.take_succ_eq_append_getElem hl, e]
      have hkb : k ≤ 1048577 := by
        have := split_count (xs.take i)
        rw [List.length_take] at this
        omega
      have hBw : B ≤ wr.heap.size := by have := hb.size; have := HBE.out; omega
      have hbw : Below w.heap.size w wr := by rw [HBE.out]; exact hb
      obtain ⟨xb, xo, rfl, hxc⟩ := (HX.out.below hbw).2.2.2.2.2 (by omega)
      have hx1 := hxc i hlt
      rw [List.getD_eq_getElem?_getD, hz, Option.getD_some] at hx1
      have hxl := block_lt_of_cell hx1
      by_cases hz10 : z = 10
      · subst hz10
        obtain ⟨a3, c3, w3, hrun3, hf3, hb3⟩ := fresh_snoc wr wr B ra k rc _ hf (Below.refl _ _) hBw none 0 0 [] rfl (World.ownsRow_nil _ _ _ _) (by omega)
        have HRUN := Lib.hid hrun3
        have HN : Hid (k + 1 = (splitL (xs.take (i + 1))).length ∧ FreshL B w3 a3 (k + 1) c3 (splitL (xs.take (i + 1))) ∧ Below B w w3) := by
          rw [hts, split_snoc10, List.length_append, ← hk]
          exact ⟨rfl, hf3, hb.trans hb3⟩
        clear hst hk hf hb hz hts hbw hxc hrun3 hf3 hb3
        go_wp2_with (at_builtin; go_must (with_reducible refine Lib.wpList_append_run _ rfl (.tmp 17) (.tmp 18) _ _ rfl _ _ rfl rfl _ _ (HRUN.out _) ?_))
        go_roundw
        case rel => exact ⟨i + 1, k + 1, a3, c3, by go_num, rfl, by omega, HN⟩
        case measure => simp [intOf]; omega
      · have hne := splitL_ne (xs.take i)
        obtain ⟨D, hD⟩ : ∃ D, (splitL (xs.take i)).dropLast = D := ⟨_, rfl⟩
        obtain ⟨y, hy⟩ : ∃ y, (splitL (xs.take i)).getLast hne = y := ⟨_, rfl⟩
        have hDy : splitL (xs.take i) = D ++ [y] := by rw [← hD, ← hy]; exact (List.dropLast_concat_getLast hne).symm
        have hnx : splitL (xs.take (i + 1)) = D ++ [y ++ [z]] := by rw [hts, split_snoc _ hz10, hD, hy]
        obtain ⟨kk, hkk⟩ : ∃ kk, k = kk + 1 := ⟨k - 1, by rw [hDy] at hk; simp at hk; omega⟩
        have hyl : y.length ≤ 1048576 := by
          have h1 : y.length ∈ lens (splitL (xs.take i)) := by rw [hDy]; simp [lens]
          have h2 := sizeN_mem h1
          rw [split_sum, List.length_take] at h2
          have h3 : y.length + 1 ≤ (xs.take i).length + 1 := by
            have h4 := split_sum (xs.take i)
            rw [hDy, lens_append, sizeN_append] at h4
            simp only [lens, List.map_cons, List.map_nil, sizeN_cons, sizeN_nil] at h4
            omega
          rw [List.length_take] at h3
          omega
        have hf2 : FreshL B wr.drew ra (kk + 1) rc (D ++ [y]) := by
          rw [hDy, hkk] at hf
          exact hf.below (Below.refl _ _).drew
        obtain ⟨g, ya, yc, a3, c3, w3, hra, hgl, hgc, hrun, hu, hfz, hgl3, hf3, hb3⟩ := fresh_last wr.drew B kk rc ra D y z hf2 hBw hyl
        obtain ⟨m, hm⟩ : ∃ m, y.length = m := ⟨_, rfl⟩
        rw [hm] at hgc hrun hf3 hb3
        obtain ⟨u, hu⟩ := hu
        subst hra
        have HRUN := Lib.hid hrun
        have HN : Hid (k = (splitL (xs.take (i + 1))).length ∧ FreshL B (w3.setCell ⟨g, kk, none⟩ (.slice a3 (m + 1) c3)) (some ⟨g, 0, none⟩) k rc (splitL (xs.take (i + 1))) ∧ Below B w (w3.setCell ⟨g, kk, none⟩ (.slice a3 (m + 1) c3))) := by
          refine ⟨?_, ?_, (hb.drew).trans hb3⟩
          · rw [hnx, hk, hDy]; simp
          · rw [hnx, hkk]; exact hf3
        have hgc0 : wr.cell? ⟨g, kk, none⟩ = some (.slice ya m yc) := hgc
        have hgl0 : g < wr.heap.size := hgl
        have hx2 : wr.drew.cell? ⟨xb, xo + i, none⟩ = some (.int .i32 z) := hx1
        have hxl2 : xb < wr.drew.heap.size := hxl
        have hk2 : kk < k := by omega
        have y1 : IntKind.i64.wrap ((k : Int) - 1) = (kk : Int) := by rw [IntKind.wrap_i64]; omega
        have y2 : (z == 10) = false := by simpa using hz10
        clear hst hk hf hb hz hts hbw hxc hrun hf3 hb3 hD hy hDy hnx hf2 hm hyl hkk
        go_wp2_with fail
        go_region_law (refine step_append_run rfl (.tmp 29) (.tmp 34) _ _ rfl _ _ (by simp [Act.eval, Act.put]) (by simp [Act.eval, Act.put]) (HRUN.out _) ?_)
        all_goals
          go_wp2_with fail
          go_roundw
          case rel => exact ⟨i + 1, k, _, rc, by go_num, rfl, by omega, HN⟩
          case measure => first | (simp [intOf]; done) | (simp [intOf]; omega)
    · obtain rfl : i = n := by omega
      have HF : Hid (k = (splitL xs).length ∧ FreshL B wr ra k rc (splitL xs) ∧ Below B w wr) := by
        have := hst.out
        rw [List.take_of_length_le (by have := HXL.out; omega)] at this
        exact this
      obtain ⟨hk, _⟩ := HF.out
      subst hk
      clear hst
      go_wp2_with fail
      go_ret
      exact ⟨_, _, rfl, HF.out.2⟩
end Go.Proofs.Ytndlebopfojjeaa.U
