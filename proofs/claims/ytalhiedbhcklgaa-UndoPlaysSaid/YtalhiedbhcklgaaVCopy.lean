/-
  The contract of copiedLines: lines in memory of their own.
-/
import Derived.Test.YtalhiedbhcklgaaVFresh
namespace Go.Proofs.Ytalhiedbhcklgaa.U
open Go.RowKit
set_option linter.unusedVariables false
set_option linter.unusedSimpArgs false
set_option maxRecDepth 100000

theorem makeL (w : World) (n : Nat) (hn : n ≤ 1073741824) : (Instr.makeSlice 22 (.int .i64 n) (.int .i64 n)).run Try.prog w = .ok (.slice (some ⟨w.heap.size, 0, none⟩) n n) (w.alloc (.cells (madeCells #[.slice none 0 0] n) 52)) := by
  obtain ⟨i, hi, hz0, hz1, hz2⟩ := info_parts infoS
  have hr := run_make (P := Try.prog) w 22 52 i _ Try.underlying22 hi hz0 .i64 .i64 n n (by omega) (Int.le_refl _) (by rw [hz2]; omega) (by omega)
  simpa [hz1, Value.cells] using hr

/-- in the loop that copies lines into a row of n: k of them are copied -/
def MadeS (B g n k : Nat) (L : List (List Int)) (w wr : World) : Prop :=
  ∃ cur : List Value, wr.heap[g]? = some (.cells cur.toArray 52 (0, 0)) ∧ cur.length = n ∧
    (∀ (i : Nat) (x : List Int), i < k → L[i]? = some x → ∃ v, cur[i]? = some v ∧ wr.ownsRow B 21 1 v x.length (ints x)) ∧
    (∀ (i j : Nat) (vi vj : Value), i < j → j < k → cur[i]? = some vi → cur[j]? = some vj → ∀ b, vi.ownBlock = some b → vj.ownBlock ≠ some b) ∧ Below B w wr
theorem MadeS.step {B g n k : Nat} {L : List (List Int)} {w wr W : World} {v : Value} {x : List Int} (h : MadeS B g n k L w wr) (hk : k < n) (hx : L[k]? = some x) (hv : W.ownsRow wr.heap.size 21 1 v x.length (ints x)) (hb : Below wr.heap.size wr W) (hB : B ≤ g) (hs : B ≤ wr.heap.size) :
    MadeS B g n (k + 1) L w (W.setCell ⟨g, k, none⟩ v) := by
  obtain ⟨cur, h1, h2, h3, h4, h6⟩ := h
  have hg := (hb.block g (heap_lt h1)).trans h1
  have hf : Fr (fun b => b = g) W (W.setCell ⟨g, k, none⟩ v) := (Fr.refl _ _).setCell _ _ (fun _ => rfl)
  have far : ∀ {B' n' : Nat} {u : Value} {xs : List Value}, W.ownsRow B' 21 1 u n' xs → (W.setCell ⟨g, k, none⟩ v).ownsRow B' 21 1 u n' xs := fun ho => own_fr ho hf (fun b e => row_block_apart ho hg (by decide) e)
  have hkL := (List.getElem?_eq_some_iff.1 hx).1
  refine ⟨cur.set k v, cell_set1 hg v, by simp [h2], ?_, ?_, (h6.trans (hb.mono hs)).setCell hB _⟩
  · intro i y hi hy
    by_cases e : i = k
    · subst e
      rw [hx] at hy
      cases hy
      exact ⟨v, by rw [List.getElem?_set_self (by omega)], far (own_mono hv hs)⟩
    · obtain ⟨u, e1, e2⟩ := h3 i y (by omega) hy
      exact ⟨u, by rw [List.getElem?_set_ne (by omega)]; exact e1, far (own_fr e2 (Fr.of_below (fun _ => False) hb) (fun _ _ h => h))⟩
  · intro i j vi vj hij hj hi hvj b hb'
    rw [List.getElem?_set_ne (by omega)] at hi
    by_cases e : j = k
    · subst e
      rw [List.getElem?_set_self (by omega)] at hvj
      cases hvj
      obtain ⟨u, e1, e2⟩ := h3 i _ hij (List.getElem?_eq_getElem (by omega))
      rw [hi] at e1
      cases e1
      intro e3
      have := (e2.lt b hb').2
      have := (hv.lt b e3).1
      omega
    · rw [List.getElem?_set_ne (by omega)] at hvj
      exact h4 i j vi vj hij (by omega) hi hvj b hb'

set_option maxHeartbeats 4000000 in
theorem copiedLines_any (F : Nat → Prop) (a : Option Addr) (n c : Nat) (L : List (List Int)) (w : World) (h : RdL F w a n c L) (hs : sizeN (lens L) ≤ 1048576) :
    Calls Try.prog 42 #[.slice a n c] w fun e w' => ∃ a' c', e = .returned (.slice a' n c') ∧ FreshL w.heap.size w' a' n c' L ∧ Below w.heap.size w w' := by
  have hl := h.len
  have hsm := h.small
  have hcnt := size_count L
  have HL := Lib.hid hl
  have H := Lib.hid h
  have HS : Hid (sizeN (lens L) ≤ 1048576) := hs
  have hn : n ≤ 1048576 := by omega
  have hmk := makeL w n (by omega)
  obtain ⟨w0, hw0⟩ : ∃ w0, w.alloc (.cells (madeCells #[.slice none 0 0] n) 52) = w0 := ⟨_, rfl⟩
  rw [hw0] at hmk
  obtain ⟨g, hgs⟩ : ∃ g, w.heap.size = g := ⟨_, rfl⟩
  have HST : Hid (MadeS g g n 0 L w w0) := by
    refine ⟨(madeCells #[.slice none 0 0] n).toList, by rw [← hw0, ← hgs]; simpa using heap_alloc_new w _, by rw [Array.length_toList, size_madeCells], fun i x hi => by omega, fun i j vi vj hij hj => by omega, by rw [← hw0, ← hgs]; exact (Below.refl _ _).alloc (Nat.le_refl _) _⟩
  rw [hgs] at hmk ⊢
  have HGS := Lib.hid hgs
  clear h hl hs hcnt hw0 hgs
  go_enter Try.func42, Try.ntmps42
  go_wp2_with fail
  go_loopw [11] (fun v11 wr => ∃ k : Nat, v11 = .int .i64 k ∧ k ≤ n ∧ Hid (MadeS g g n k L w wr)) (fun v11 _ => n - (intOf v11).toNat)
  case atStart => exact ⟨0, rfl, Nat.zero_le _, HST⟩
  case round =>
    obtain ⟨k, rfl, hk, hst⟩ := hrel
    clear HST hmk
    by_cases hlt : k < n
    · obtain ⟨x, hx⟩ : ∃ x, L[k]? = some x := ⟨_, List.getElem?_eq_getElem (by have := HL.out; omega)⟩
      obtain ⟨cur, hg, hcl, s3, s4, hb⟩ := hst.out
      obtain ⟨b, off, xa, xc, rfl, hbl, _, hc, hrd, _⟩ := H.out.get (by rw [HGS.out]; exact hb) hx
      have hgl := heap_lt hg
      have hbw : b < wr.heap.size := by have := hb.size; omega
      have hxl : x.length ≤ 1048576 := by
        have h1 := size_take hx
        have h2 := size_take_le L (k + 1)
        have := HS.out
        omega
      have hsB : g ≤ wr.heap.size := by omega
      obtain ⟨a2, c2, w2, hrun, ho2, hb2⟩ := app_rd wr wr.heap.size (.slice none 0 0) 0 [] xa x.length xc x (World.ownsRow_nil _ _ _ _) (Nat.le_refl _) hrd (by omega)
      rw [Nat.zero_add] at hrun ho2
      rw [List.nil_append] at ho2
      have hgW := (hb2.block g hgl).trans hg
      have HN : Hid (MadeS g g n (k + 1) L w (w2.setCell ⟨g, k, none⟩ (.slice a2 x.length c2))) := hst.out.step hlt hx ho2 hb2 (Nat.le_refl _) hsB
      have dW : w2.cell? ⟨g, k, none⟩ = some (cur[k]'(by omega)) := by
        rw [cell_row hgW, List.getElem?_toArray]
        exact List.getElem?_eq_getElem _
      have zW := frozen_row hgW k
      have gW := heap_lt hgW
      have HRUN := Lib.hid hrun
      obtain ⟨y, hy⟩ : ∃ y, x.length = y := ⟨_, rfl⟩
      rw [hy] at hc HRUN hxl HN
      obtain ⟨zz, hzz⟩ : ∃ zz, cur[k]'(by omega) = zz := ⟨_, rfl⟩
      rw [hzz] at dW
      clear hx hrd hrun ho2 hb2 hy hzz hst hg hcl s3 s4 hb hgW
      go_wp2_with (at_builtin; go_must (with_reducible refine Lib.wpList_append_run _ rfl (.const (.slice none 0 0)) (.tmp 18) _ _ rfl _ _ rfl rfl _ _ (HRUN.out _) ?_))
      go_roundw
      case rel => exact ⟨k + 1, by go_num, by omega, HN⟩
      case measure => simp [intOf]; omega
    · obtain rfl : k = n := by omega
      have HF : Hid (FreshL g wr (some ⟨g, 0, none⟩) k k L ∧ Below g w wr) := by
        obtain ⟨cur, hg, hcl, s3, s4, hb⟩ := hst.out
        have ho := own_of (B := g) (n := k) (cap := k) (size := 1) hg (Nat.le_refl _) (Nat.le_refl _) (by unfold maxLen; omega) (by rw [List.size_toArray, hcl]; omega)
        rw [Nat.mul_one] at ho
        refine ⟨⟨cur.take k, ho, by rw [List.length_take, HL.out]; omega, fun i x hx => ?_, fun i j vi vj hij hi hj => ?_⟩, hb⟩
        · have hil : i < k := by have := (List.getElem?_eq_some_iff.1 hx).1; have := HL.out; omega
          obtain ⟨v, q1, q2⟩ := s3 i x hil hx
          exact ⟨v, by rw [List.getElem?_take, if_pos hil]; exact q1, q2⟩
        · rw [List.getElem?_take] at hi hj
          split at hj
          · next hjk =>
            rw [if_pos (by omega)] at hi
            exact s4 i j vi vj hij hjk hi hj
          · cases hj
      clear hst
      go_wp2_with fail
      go_ret
      exact ⟨_, _, rfl, HF.out.1, HF.out.2⟩
end Go.Proofs.Ytalhiedbhcklgaa.U
