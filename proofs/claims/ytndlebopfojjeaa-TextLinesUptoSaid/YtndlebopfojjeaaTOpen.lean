/-
  Rows of the caller's own, written over; the law's open.
-/
import Derived.Test.YtndlebopfojjeaaTRefN
namespace Go.Proofs.Ytndlebopfojjeaa.U
open Go.RowKit
set_option linter.unusedVariables false
set_option linter.unusedSimpArgs false
set_option maxRecDepth 100000

/-- a row of runes of the caller's own, whatever lies in it; its block lies in [B, s) -/
def AnyRow (B s : Nat) (w : World) (v : Value) (m : Nat) : Prop := ∃ xs, w.ownsRow B 21 1 v m xs ∧ ∀ k, v.ownBlock = some k → k < s
theorem AnyRow.fr {F : Nat → Prop} {B s m : Nat} {w w' : World} {v : Value} (h : AnyRow B s w v m) (hf : Fr F w w') (hk : ∀ k, v.ownBlock = some k → ¬ F k) : AnyRow B s w' v m := by
  obtain ⟨xs, h, h2⟩ := h
  exact ⟨xs, own_fr h hf hk, h2⟩
theorem AnyRow.below {B s m : Nat} {w w' : World} {v : Value} (h : AnyRow B s w v m) (hb : Below w.heap.size w w') : AnyRow B s w' v m := h.fr (Fr.of_below (fun _ => False) hb) (fun _ _ h => h)
theorem AnyRow.set {B s m : Nat} {w : World} {v : Value} (h : AnyRow B s w v m) (g j : Nat) (u : Value) : AnyRow B s (w.setCell ⟨g, j, none⟩ u) v m := by
  obtain ⟨xs, ⟨h1, h2⟩, h3⟩ := h
  rcases h2 with ⟨rfl, rfl⟩ | ⟨g', cap, cur, rfl, hb, hg, hn, hc, hs, ht⟩
  · exact ⟨xs, ⟨h1, .inl ⟨rfl, rfl⟩⟩, h3⟩
  · by_cases e : g' = g
    · subst e
      refine ⟨(cur.setIfInBounds j u).toList.take (m * 1), ⟨?_, .inr ⟨g', cap, _, rfl, hb, heap_set hg j u, hn, hc, by simpa using hs, rfl⟩⟩, h3⟩
      rw [List.length_take, Array.length_toList, Array.size_setIfInBounds]; omega
    · exact ⟨xs, ⟨h1, .inr ⟨g', cap, cur, rfl, hb, (Below.heap_setCell _ _ _ _ (by simp only; omega)).trans hg, hn, hc, hs, ht⟩⟩, h3⟩
theorem AnyRow.get {B s m rc j : Nat} {w : World} {ra : Option Addr} (h : AnyRow B s w (.slice ra m rc) m) (hj : j < m) : ∃ g cur, ra = some ⟨g, 0, none⟩ ∧ B ≤ g ∧ g < s ∧ w.heap[g]? = some (.cells cur 21 (0, 0)) ∧ (∃ u, w.cell? ⟨g, j, none⟩ = some u) ∧ w.frozen? ⟨g, j, none⟩ = false ∧ g < w.heap.size := by
  obtain ⟨xs, ⟨h1, h2⟩, h3⟩ := h
  rcases h2 with ⟨e, rfl⟩ | ⟨g, cap, cur, e, hb, hg, hn, hc, hs, ht⟩
  · omega
  · injection e with e1 e2 e3
    subst e1
    exact ⟨g, cur, rfl, hb, h3 g rfl, hg, ⟨_, (cell_row hg j).trans (Array.getElem?_eq_getElem (by omega))⟩, frozen_row hg j, heap_lt hg⟩

/-- rows of the caller's own, whatever lies in them -/
def MineL (B s : Nat) (w : World) (a : Option Addr) (n c : Nat) (ls : List Nat) : Prop :=
  ∃ vs, w.ownsRow B 31 1 (.slice a n c) n vs ∧ vs.length = ls.length ∧ ∀ (i m : Nat), ls[i]? = some m → ∃ v, vs[i]? = some v ∧ AnyRow B s w v m
theorem FreshL.mine {B n c : Nat} {w : World} {a : Option Addr} {L : List (List Int)} (h : FreshL B w a n c L) : MineL B w.heap.size w a n c (lens L) := by
  obtain ⟨vs, h1, h2, h3, h4⟩ := h
  refine ⟨vs, h1, by rw [lens_len]; exact h2, fun i m hm => ?_⟩
  unfold lens at hm
  rw [List.getElem?_map] at hm
  cases hx : L[i]? with
  | none => rw [hx] at hm; cases hm
  | some x =>
    rw [hx] at hm
    cases hm
    obtain ⟨v, e1, e2⟩ := h3 i x hx
    exact ⟨v, e1, _, e2, fun k e => (e2.lt k e).2⟩
theorem MineL.len {B s n c : Nat} {w : World} {a : Option Addr} {ls : List Nat} (h : MineL B s w a n c ls) : ls.length = n := by
  obtain ⟨vs, h1, h2, _⟩ := h
  have := h1.1
  omega
theorem MineL.below {B s n c : Nat} {w w' : World} {a : Option Addr} {ls : List Nat} (h : MineL B s w a n c ls) (hb : Below w.heap.size w w') : MineL B s w' a n c ls := by
  obtain ⟨vs, h1, h2, h3⟩ := h
  exact ⟨vs, own_fr h1 (Fr.of_below (fun _ => False) hb) (fun _ _ h => h), h2, fun i m hm => by obtain ⟨v, e1, e2⟩ := h3 i m hm; exact ⟨v, e1, e2.below hb⟩⟩
theorem MineL.set {B s n c g : Nat} {w : World} {a : Option Addr} {ls : List Nat} {cur : Array Value} (h : MineL B s w a n c ls) (hg : w.heap[g]? = some (.cells cur 21 (0, 0))) (j : Nat) (u : Value) : MineL B s (w.setCell ⟨g, j, none⟩ u) a n c ls := by
  obtain ⟨vs, h1, h2, h3⟩ := h
  refine ⟨vs, own_fr h1 ((Fr.refl (fun k => k = g) _).setCell _ _ (fun _ => rfl)) (fun k e => row_block_apart h1 hg (by decide) e), h2, fun i m hm => ?_⟩
  obtain ⟨v, e1, e2⟩ := h3 i m hm
  exact ⟨v, e1, e2.set g j u⟩
theorem MineL.get {B s n c i m : Nat} {w : World} {a : Option Addr} {ls : List Nat} (h : MineL B s w a n c ls) (hm : ls[i]? = some m) : ∃ g ra rc, a = some ⟨g, 0, none⟩ ∧ g < w.heap.size ∧ B ≤ g ∧ w.cell? ⟨g, i, none⟩ = some (.slice ra m rc) ∧ AnyRow B s w (.slice ra m rc) m := by
  obtain ⟨vs, h1, h2, h3⟩ := h
  obtain ⟨v, e1, e2⟩ := h3 i m hm
  have hi : i < vs.length := (List.getElem?_eq_some_iff.1 e1).1
  obtain ⟨ra, rc, rfl⟩ : ∃ ra rc, v = .slice ra m rc := by obtain ⟨_, e2, _⟩ := e2; exact own_slice e2
  rcases h1.2 with ⟨e, e0⟩ | ⟨g, cap, cur, e, hb, hg, hn, hc, hs, ht⟩
  · have := h1.1; omega
  · injection e with e3 e4 e5
    subst e3
    refine ⟨g, ra, rc, rfl, heap_lt hg, hb, ?_, e2⟩
    rw [cell_row hg, ← e1, ← ht, List.getElem?_take, if_pos (by have := h1.1; omega)]
    simp

theorem RX.fr {P G : Nat → Prop} {w w' : World} {bx : Nat} {L : List (List Int)} (h : RX P w bx L) (hf : Fr G w w') (hd : ∀ k, P k → ¬ G k) : RX P w' bx L := by
  obtain ⟨la, n, lc, h1, h2, h3⟩ := h
  exact ⟨la, n, lc, (hf.block bx (heap_lt h1) (hd bx h3)).trans h1, h2.frF hf (fun k hk => hd k hk.1), h3⟩
theorem RX.below {P : Nat → Prop} {w w' : World} {bx : Nat} {L : List (List Int)} (h : RX P w bx L) (hb : Below w.heap.size w w') : RX P w' bx L := h.fr (Fr.of_below (fun _ => False) hb) (fun _ _ h => h)
theorem RX.mono {P G : Nat → Prop} {w : World} {bx : Nat} {L : List (List Int)} (h : RX P w bx L) (hg : ∀ k, P k → G k) : RX G w bx L := by
  obtain ⟨la, n, lc, h1, h2, h3⟩ := h
  exact ⟨la, n, lc, h1, h2.mono (fun k hk => ⟨hg k hk.1, hk.2⟩), hg _ h3⟩

/-- both texts, or none -/
def Both4 (s1 : Nat) (L : List (List Int)) (v6 v7 : Value) (w : World) : Prop :=
  (okL L = false ∧ v6 = .pointer none ∧ v7 = .pointer none) ∨
    (okL L = true ∧ ∃ bt bx s2, v6 = .pointer (some ⟨bt, 0, none⟩) ∧ v7 = .pointer (some ⟨bx, 0, none⟩) ∧ s1 ≤ s2 ∧ TX (fun k => s1 ≤ k ∧ k < s2) w bt (normL L) 0 ∧ RX (fun k => s2 ≤ k) w bx (normL L))
theorem Both4.fr {s1 : Nat} {L : List (List Int)} {v6 v7 : Value} {w w' : World} {G : Nat → Prop} (h : Both4 s1 L v6 v7 w) (hf : Fr G w w') (hd : ∀ k, G k → k < s1) : Both4 s1 L v6 v7 w' := by
  rcases h with h | ⟨h0, bt, bx, s2, h1, h2, h3, h4, h5⟩
  · exact .inl h
  · exact .inr ⟨h0, bt, bx, s2, h1, h2, h3, h4.fr hf (fun k hk hg => by have := hd k hg; omega), h5.fr hf (fun k hk hg => by have := hd k hg; omega)⟩
def OpenPost (w : World) (L : List (List Int)) (e : Ending) (w' : World) : Prop :=
  ∃ v6 v7 s1, e = .returned (.tuple #[v6, v7, .bool true]) ∧ w.heap.size ≤ s1 ∧ Both4 s1 L v6 v7 w' ∧ Below w.heap.size w w'

theorem sizeN_mem {l : List Nat} {m : Nat} (h : m ∈ l) : m ≤ sizeN l := by
  induction l with
  | nil => cases h
  | cons a r ih =>
    rw [sizeN_cons]
    rcases List.mem_cons.1 h with rfl | h
    · omega
    · have := ih h; omega
set_option maxHeartbeats 4000000 in
theorem open_any (F : Nat → Prop) (a : Option Addr) (n c : Nat) (L : List (List Int)) (w : World) (h : RdL F w a n c L) (hs : sizeN (lens L) ≤ 1048576) :
    Calls Try.prog 11 #[.slice a n c] w (OpenPost w L) := by
  have HTW := Lib.hid (rtwin_any F a n c L w h hs)
  have HWF := Lib.hid (lines_wf (rdl_wf h))
  have hl := h.len
  have hsm := h.small
  have H := Lib.hid h
  obtain ⟨B, hB⟩ : ∃ B, w.heap.size = B := ⟨_, rfl⟩
  have HBE := Lib.hid hB
  have HLL := Lib.hid hl
  clear h hB hl
  go_enter Try.func11, Try.ntmps11
  go_wp2_with fail
  refine HTW.out.mono ?_
  rintro e w1 ⟨a1, c1, rfl, hf, hb1⟩
  rw [HBE.out] at hf
  have hz1 := hb1.size
  have HR1 := Lib.hid (hf.rdl HWF.out)
  have HB1 : Hid (Below B w w1 ∧ B ≤ w1.heap.size) := ⟨by rw [← HBE.out]; exact hb1, by have := HBE.out; omega⟩
  have HH1 := Lib.hid (H.out.below hb1)
  obtain ⟨s1, hs1⟩ : ∃ s1, w1.heap.size = s1 := ⟨_, rfl⟩
  have HS1 := Lib.hid hs1
  have HM1 : Hid (MineL B s1 w1 a1 n c1 (lens L)) := by have := hf.mine; rw [hs1] at this; exact this
  have HBS : Hid (B ≤ s1) := by show _ ≤ _; rw [← hs1]; exact HB1.out.2
  clear HTW hf hb1 hz1 hs1
  go_upto_region 2 with fail
  go_cut [6, 7] (fun v6 v7 wx => Hid (Both4 s1 L v6 v7 wx ∧ Below w1.heap.size w1 wx))
  case first =>
    have HNW := Lib.hid (new_any _ a1 n c1 L w1 HR1.out hs)
    go_wp2_with fail
    refine HNW.out.mono ?_
    rintro e w2 (⟨hno, rfl, rfl⟩ | ⟨hok, bt, rfl, T2, hb2⟩)
    · have HN := Lib.hid (rnew_no _ a n c L w1 HH1.out hs hno)
      have HNO := Lib.hid hno
      clear HNW hno
      go_wp2_with (go_at_call 22; refine HN.out.mono ?_; rintro e w' ⟨rfl, rfl⟩)
      go_meet
      exact ⟨.inl ⟨HNO.out, rfl, rfl⟩, Below.refl _ _⟩
    · have HN := Lib.hid (rnew_ok _ a n c L w2 (HH1.out.below hb2) hs hok)
      have HOK : Hid (okL L = true ∧ TX (fun k => w1.heap.size ≤ k ∧ k < w2.heap.size) w2 bt (normL L) 0 ∧ Below w1.heap.size w1 w2) := ⟨hok, T2.bound, hb2⟩
      clear HNW hok T2 hb2
      go_wp2_with fail
      refine HN.out.mono ?_
      rintro e w3 ⟨bx, rfl, X3, hb3⟩
      have HX : Hid (Both4 s1 L (.pointer (some ⟨bt, 0, none⟩)) (.pointer (some ⟨bx, 0, none⟩)) w3 ∧ Below w1.heap.size w1 w3) := by
        obtain ⟨h1, h2, h3⟩ := HOK.out
        have := h3.size
        rw [HS1.out] at h2 this
        exact ⟨.inr ⟨h1, bt, bx, w2.heap.size, rfl, rfl, this, h2.below hb3, X3⟩, h3.trans (hb3.mono h3.size)⟩
      clear HN HOK X3 hb3
      go_wp2_with fail
      go_meet
      exact HX
  case rest =>
  obtain ⟨w3, hw3⟩ : ∃ x, x = wc := ⟨_, rfl⟩
  subst hw3
  have HC : Hid (Both4 s1 L u6 u7 w3 ∧ MineL B s1 w3 a1 n c1 (lens L) ∧ Below B w w3) := ⟨hcut.out.1, HM1.out.below hcut.out.2, HB1.out.1.trans (hcut.out.2.mono HB1.out.2)⟩
  clear hcut HM1 HB1 HR1 HH1
  go_wp2_with fail
  go_loopw [8, 9] (fun v8 v9 wr => ∃ i : Nat, v8 = .int .i64 i ∧ i ≤ n ∧ Hid (Both4 s1 L u6 u7 wr ∧ MineL B s1 wr a1 n c1 (lens L) ∧ Below B w wr)) (fun v8 _ _ => n - (intOf v8).toNat)
  case atStart => exact ⟨0, rfl, Nat.zero_le _, HC⟩
  case round =>
    obtain ⟨i, rfl, hi, hst⟩ := hrel
    clear HC
    by_cases hlt : i < n
    · obtain ⟨m, hm⟩ : ∃ m, (lens L)[i]? = some m := ⟨_, List.getElem?_eq_getElem (by rw [lens_len, HLL.out]; exact hlt)⟩
      have HMI := Lib.hid hm
      have hmb : m ≤ 1048576 := by
        obtain ⟨h1, h2⟩ := List.getElem?_eq_some_iff.1 hm
        have := sizeN_mem (List.getElem_mem h1)
        omega
      obtain ⟨wq, hwq⟩ : ∃ x, x = wr := ⟨_, rfl⟩
      subst hwq
      clear hm
      go_wp2_with fail
      go_loopw [9] (fun v9 wr => ∃ k : Nat, v9 = .int .i64 k ∧ k ≤ m ∧ Hid (Both4 s1 L u6 u7 wr ∧ MineL B s1 wr a1 n c1 (lens L) ∧ Below B w wr)) (fun v9 _ => m - (intOf v9).toNat)
      case atStart => exact ⟨0, rfl, Nat.zero_le _, hst⟩
      case round =>
        obtain ⟨k, rfl, hk, hin⟩ := hrel
        clear hst
        obtain ⟨g, ra, rc, rfl, hgl, hgB, hcell, hrow⟩ := hin.out.2.1.get HMI.out
        by_cases hlt2 : k < m
        · obtain ⟨g2, cur, rfl, h2B, h2s, h2g, ⟨u, h2c⟩, h2f, h2l⟩ := hrow.get hlt2
          have HN : Hid (Both4 s1 L u6 u7 (wr.setCell ⟨g2, k, none⟩ (.int .i32 7)) ∧ MineL B s1 (wr.setCell ⟨g2, k, none⟩ (.int .i32 7)) (some ⟨g, 0, none⟩) n c1 (lens L) ∧ Below B w (wr.setCell ⟨g2, k, none⟩ (.int .i32 7))) :=
            ⟨hin.out.1.fr (G := fun x => x = g2) ((Fr.refl _ _).setCell _ _ (fun _ => rfl)) (fun x e => by rw [e]; exact h2s), hin.out.2.1.set h2g k _, hin.out.2.2.setCell h2B _⟩
          clear hin hrow h2g
          go_wp2_with fail
          go_roundw
          case rel => exact ⟨k + 1, by go_num, by omega, HN⟩
          case measure => simp [intOf]; omega
        · obtain rfl : k = m := by omega
          clear hrow
          go_wp2_with fail
          go_roundw
          case rel => exact ⟨i + 1, by go_num, by omega, hin⟩
          case measure => simp [intOf]; omega
    · obtain rfl : i = n := by omega
      rcases hst.out.1 with ⟨h0, rfl, rfl⟩ | ⟨h0, bt, bx, s2, rfl, rfl, h4⟩
      · go_wp2_with fail
        go_ret3
        exact ⟨_, _, s1, rfl, by rw [HBE.out]; exact HBS.out, hst.out.1, by rw [HBE.out]; exact hst.out.2.2⟩
      · clear h4
        go_wp2_with fail
        go_ret3
        exact ⟨_, _, s1, rfl, by rw [HBE.out]; exact HBS.out, hst.out.1, by rw [HBE.out]; exact hst.out.2.2⟩
end Go.Proofs.Ytndlebopfojjeaa.U
