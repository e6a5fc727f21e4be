/-
  The contract of All.
-/
import Derived.Test.YtndlebopfojjeaaTSwap
namespace Go.Proofs.Ytndlebopfojjeaa.U
open Go.RowKit
set_option linter.unusedVariables false
set_option linter.unusedSimpArgs false
set_option maxRecDepth 100000

/-- lines that are the caller's own: each in a row of its own -/
def FreshL (B : Nat) (w : World) (a : Option Addr) (n c : Nat) (L : List (List Int)) : Prop :=
  ∃ vs, w.ownsRow B 31 1 (.slice a n c) n vs ∧ vs.length = L.length ∧ (∀ (i : Nat) (x : List Int), L[i]? = some x → ∃ v, vs[i]? = some v ∧ w.ownsRow B 21 1 v x.length (ints x)) ∧
    (∀ (i j : Nat) (vi vj : Value), i < j → vs[i]? = some vi → vs[j]? = some vj → ∀ k, vi.ownBlock = some k → vj.ownBlock ≠ some k)
theorem FreshL.len {B w a n c L} (h : FreshL B w a n c L) : L.length = n := by
  obtain ⟨vs, h1, h2, _⟩ := h
  have := h1.1
  omega
theorem FreshL.below {B : Nat} {w w' : World} {a : Option Addr} {n c : Nat} {L : List (List Int)} (h : FreshL B w a n c L) (hb : Below w.heap.size w w') : FreshL B w' a n c L := by
  obtain ⟨vs, h1, h2, h3, h4⟩ := h
  exact ⟨vs, own_fr h1 (Fr.of_below (fun _ => False) hb) (fun _ _ h => h), h2, fun i x hx => by obtain ⟨v, e1, e2⟩ := h3 i x hx; exact ⟨v, e1, own_fr e2 (Fr.of_below (fun _ => False) hb) (fun _ _ h => h)⟩, h4⟩
theorem FreshL.rdl {B : Nat} {w : World} {a : Option Addr} {n c : Nat} {L : List (List Int)} (h : FreshL B w a n c L) (hw : ∀ x ∈ L, ∀ y ∈ x, (Lit.int .i32 y).wf = true) : RdL (fun k => B ≤ k) w a n c L := by
  obtain ⟨vs, h1, h2, h3, h4⟩ := h
  refine ⟨vs, Rc.own h1, InF.own h1 (fun k e => (h1.lt k e).1), h2, fun i x hx => ?_⟩
  obtain ⟨v, e1, e2⟩ := h3 i x hx
  obtain ⟨ra, rc, rfl⟩ := own_slice e2
  exact ⟨ra, rc, e1, own_rd e2 (hw x (List.mem_of_getElem? hx)), InF.own e2 (fun k e => (e2.lt k e).1)⟩
theorem lines_wf {L : List (List Int)} (h : ∀ x ∈ joinL L, (Lit.int .i32 x).wf = true) : ∀ x ∈ L, ∀ y ∈ x, (Lit.int .i32 y).wf = true := by
  intro x hx y hy
  have hne : L ≠ [] := by intro e; subst e; cases hx
  have h1 : y ∈ joinE L := by
    unfold joinE
    simp only [List.mem_flatMap, List.mem_append]
    exact ⟨x, hx, .inl hy⟩
  rw [joinE_joinL hne] at h1
  rcases List.mem_append.1 h1 with h1 | h1
  · exact h y h1
  · simp at h1; subst h1; rfl

/-- in the loop that makes lines the caller's: k of them are -/
def AllS (B g n c k : Nat) (F : Nat → Prop) (L : List (List Int)) (w wr : World) : Prop :=
  ∃ cur : List Value, wr.heap[g]? = some (.cells cur.toArray 31 (0, 0)) ∧ cur.length = c ∧
    (∀ (i : Nat) (x : List Int), i < k → L[i]? = some x → ∃ v, cur[i]? = some v ∧ wr.ownsRow B 21 1 v x.length (ints x)) ∧
    (∀ (i j : Nat) (vi vj : Value), i < j → j < k → cur[i]? = some vi → cur[j]? = some vj → ∀ b, vi.ownBlock = some b → vj.ownBlock ≠ some b) ∧
    (∀ (i : Nat) (x : List Int), k ≤ i → L[i]? = some x → ∃ ra rc, cur[i]? = some (Value.slice ra x.length rc) ∧ Rd .i32 wr ra x.length rc x ∧ InF F ra x.length) ∧ Below B w wr
theorem AllS.step {B g n c k : Nat} {F : Nat → Prop} {L : List (List Int)} {w wr W : World} {v : Value} {x : List Int} (h : AllS B g n c k F L w wr) (hk : k < c) (hx : L[k]? = some x) (hv : W.ownsRow wr.heap.size 21 1 v x.length (ints x)) (hb : Below wr.heap.size wr W) (hB : B ≤ g) (hF : ∀ b, F b → b ≠ g) (hs : B ≤ wr.heap.size) (hlen : L.length ≤ c) :
    AllS B g n c (k + 1) F L w (W.setCell ⟨g, k, none⟩ v) := by
  obtain ⟨cur, h1, h2, h3, h4, h5, h6⟩ := h
  have hg := (hb.block g (heap_lt h1)).trans h1
  have hgl := heap_lt h1
  have hf : Fr (fun b => b = g) W (W.setCell ⟨g, k, none⟩ v) := (Fr.refl _ _).setCell _ _ (fun _ => rfl)
  have far : ∀ {B' n' : Nat} {u : Value} {xs : List Value}, W.ownsRow B' 21 1 u n' xs → (W.setCell ⟨g, k, none⟩ v).ownsRow B' 21 1 u n' xs := fun ho => own_fr ho hf (fun b e => row_block_apart ho hg (by decide) e)
  refine ⟨cur.set k v, cell_set1 hg v, by simp [h2], ?_, ?_, ?_, (h6.trans (hb.mono hs)).setCell hB _⟩
  · intro i y hi hy
    by_cases e : i = k
    · subst e
      rw [hx] at hy
      cases hy
      exact ⟨v, by rw [List.getElem?_set_self (by omega)], far (own_mono hv hs)⟩
    · obtain ⟨u, e1, e2⟩ := h3 i y (by omega) hy
      exact ⟨u, by rw [List.getElem?_set_ne (by omega)]; exact e1, far (own_fr e2 (Fr.of_below (fun _ => False) hb) (fun _ _ h => h))⟩
  · intro i j vi vj hij hj hi hvj b hb'
    rw [List.getElem?_set_ne (by omega)] at hi
    by_cases e : j = k
    · subst e
      rw [List.getElem?_set_self (by omega)] at hvj
      cases hvj
      have hil : i < L.length := by
        have := (List.getElem?_eq_some_iff.1 hx).1; omega
      obtain ⟨u, e1, e2⟩ := h3 i _ hij (List.getElem?_eq_getElem hil)
      rw [hi] at e1
      cases e1
      intro e3
      have := (e2.lt b hb').2
      have := (hv.lt b e3).1
      omega
    · rw [List.getElem?_set_ne (by omega)] at hvj
      exact h4 i j vi vj hij (by omega) hi hvj b hb'
  · intro i y hi hy
    obtain ⟨ra, rc, e1, e2, e3⟩ := h5 i y (by omega) hy
    exact ⟨ra, rc, by rw [List.getElem?_set_ne (by omega)]; exact e1, (e2.below hb).frF e3 hf (fun b hb' => hF b hb'), e3⟩

set_option maxHeartbeats 4000000 in
theorem all_any (P : Nat → Prop) (bt ng : Nat) (L : List (List Int)) (w : World) (h : TX P w bt L ng) (hng : ng ≤ lim) :
    Calls Try.prog 25 #[.pointer (some ⟨bt, 0, none⟩)] w fun e w' => ∃ a c, e = .returned (.slice a L.length c) ∧ FreshL w.heap.size w' a L.length c L ∧ Below w.heap.size w w' := by
  have hrow := h.row
  have hpos := h.pos
  have hcnt := h.count
  have hspl := split_join h.plain h.ne
  have hwf := h.wf
  obtain ⟨tt, F, ba, n, bc, ps, c0, c2, hlt, hlb, hfl, F1, np, hts⟩ := h.open_
  unfold ifv at c0
  have HLEN : Hid (∀ W, Below w.heap.size w W → Calls Try.prog 105 #[.pointer (some ⟨tt, 0, none⟩)] W fun e w' => e = .returned (.int .i64 ((joinL L).length : Nat)) ∧ W = w') := fun W hW => ts_len _ _ _ _ _ _ W (hts.below hW)
  have hsli : sliM (joinL L) 0 ((joinL L).length : Nat) = (joinL L, 0) := by
    unfold sliM
    rw [hasB_iff.2 ⟨by omega, by omega, by omega⟩]
    simp
  have HSL : Hid (∀ W, Below w.heap.size w W → Calls Try.prog 106 #[.pointer (some ⟨tt, 0, none⟩), .int .i64 0, .int .i64 ((joinL L).length : Nat)] W fun e w' => ∃ a' c', e = .returned (.tuple #[.slice a' (joinL L).length c', .int .i64 0]) ∧ Hid (w'.ownsRow w.heap.size 21 1 (.slice a' (joinL L).length c') (joinL L).length (ints (joinL L)) ∧ Below w.heap.size w w')) := by
    intro W hW
    have := ts_slice F1 tt (joinL L) [] np ng 0 ((joinL L).length : Nat) W (hts.below hW) (by unfold i64b; omega) (by unfold i64b; omega) hng
    rw [hsli] at this
    refine this.mono ?_
    rintro e w' ⟨a', c', rfl, ho, hbb⟩
    exact ⟨a', c', rfl, own_mono ho hW.size, hW.trans (hbb.mono hW.size)⟩
  have HPA : Hid (∀ W a' c', Hid (W.ownsRow w.heap.size 21 1 (.slice a' (joinL L).length c') (joinL L).length (ints (joinL L)) ∧ Below w.heap.size w W) → Calls Try.prog 47 #[.slice a' (joinL L).length c'] W fun e w' => ∃ g cc, e = .returned (.slice (some ⟨g, 0, none⟩) L.length cc) ∧ cc ≤ 9223372036854775807 ∧ L.length ≤ cc ∧
      Hid (∃ F : Nat → Prop, (∀ b, F b → b < g) ∧ w.heap.size ≤ g ∧ AllS w.heap.size g L.length cc 0 F L w w')) := by
    intro W a' c' hh
    obtain ⟨ho, hb⟩ := hh.out
    refine (parted_any (fun k => k < W.heap.size) a' _ c' (joinL L) W (own_rd ho hwf) (fun hp ad e => ?_) (fun k hk => hk) (by omega)).mono ?_
    · obtain ⟨g, rfl⟩ := own_some ho hp
      cases e
      exact (ho.lt g rfl).2
    · rintro e w' ⟨a2, c2', rfl, hol, hb2⟩
      rw [hspl] at hol ⊢
      obtain ⟨vs, o1, o2⟩ := hol
      obtain ⟨g, rfl⟩ := own_some o1 hpos
      obtain ⟨cur, hg, hcl, ht, hnc, hcm, hBg, -⟩ := own_cur o1
      rw [Nat.mul_one] at hcl ht
      refine ⟨g, c2', rfl, by unfold maxLen at hcm; omega, hnc, fun k => k < W.heap.size, fun b hb' => by omega, by have := hb.size; omega, cur, hg, hcl, (fun i x hi => by omega), (fun i j vi vj hij hj => by omega), fun i x _ hx => ?_, hb.trans (hb2.mono hb.size)⟩
      obtain ⟨ra, rc, q1, q2, q3⟩ := o2.2 i x hx
      refine ⟨ra, rc, ?_, q2, q3⟩
      rw [← ht, List.getElem?_take] at q1
      split at q1
      · exact q1
      · cases q1
  obtain ⟨N, hN⟩ : ∃ N, L.length = N := ⟨_, rfl⟩
  have HN := Lib.hid hN
  rw [hN] at HPA hcnt hpos ⊢
  clear hlb hfl hts h hsli hspl hwf c2 hN
  go_enter Try.func25, Try.ntmps25
  go_wp2_with fail
  go_cut [3] (fun v3 wx => ∃ a' c', v3 = .slice a' (joinL L).length c' ∧ Hid (wx.ownsRow w.heap.size 21 1 (.slice a' (joinL L).length c') (joinL L).length (ints (joinL L)) ∧ Below w.heap.size w wx))
  case first =>
    go_region_with (first
      | (go_at_call 105; refine (HLEN.out _ (by first | exact Below.refl _ _ | exact (Below.refl _ _).drew)).mono ?_; rintro e w' ⟨rfl, rfl⟩)
      | (go_at_call 106; refine (HSL.out _ (by first | exact Below.refl _ _ | exact (Below.refl _ _).drew)).mono ?_; rintro e w2 ⟨a2, c2, rfl, h2⟩))
    all_goals
      go_wp2_with fail
      go_meet
      exact ⟨_, _, rfl, h2⟩
  case rest =>
    obtain ⟨a', c', rfl, h2⟩ := hcut
    clear c0 HLEN HSL
    go_wp2_with fail
    refine (HPA.out _ _ _ h2).mono ?_
    rintro e w3 ⟨g, cc, rfl, hcc, hNc, h3⟩
    obtain ⟨FF, hFF, hgB, hst0⟩ := h3.out
    have HST := Lib.hid hst0
    have HFF := Lib.hid hFF
    clear hst0 hFF h3 h2 HPA
    go_wp2_with fail
    go_loopw [28] (fun v28 wr => ∃ k : Nat, v28 = .int .i64 k ∧ k ≤ N ∧ Hid (AllS w.heap.size g N cc k FF L w wr)) (fun v28 _ => N - (intOf v28).toNat)
    case atStart => exact ⟨0, rfl, Nat.zero_le _, HST⟩
    case round =>
      obtain ⟨k, rfl, hk, hst⟩ := hrel
      clear HST
      by_cases hlt2 : k < N
      · obtain ⟨x, hx⟩ : ∃ x, L[k]? = some x := ⟨_, List.getElem?_eq_getElem (by have := HN.out; omega)⟩
        obtain ⟨cur, hg, hcl, s3, s4, s5, hb⟩ := hst.out
        obtain ⟨ra, rc, q1, q2, q3⟩ := s5 k x (Nat.le_refl _) hx
        have d0 : wr.cell? ⟨g, k, none⟩ = some (.slice ra x.length rc) := by rw [cell_row hg]; simpa using q1
        have z0 := frozen_row hg k
        have hgl := heap_lt hg
        have hxl : x.length ≤ lim := by
          have h1 := line_cut hx
          unfold lim
          omega
        have HCL : Hid (Calls Try.prog 48 #[.slice ra x.length rc] wr fun e W => ∃ va vc, e = .returned (.slice va x.length vc) ∧ W.cell? ⟨g, k, none⟩ = some (.slice ra x.length rc) ∧ W.frozen? ⟨g, k, none⟩ = false ∧ g < W.heap.size ∧ Hid (AllS w.heap.size g N cc (k + 1) FF L w (W.setCell ⟨g, k, none⟩ (.slice va x.length vc)))) := by
          refine (clone_any ra _ rc x wr q2 hxl).mono ?_
          rintro e W ⟨v, rfl, hov, hbW⟩
          obtain ⟨va, vc, rfl⟩ := own_slice hov
          have hgW := (hbW.block g hgl).trans hg
          exact ⟨va, vc, rfl, by rw [cell_row hgW]; simpa using q1, frozen_row hgW k, heap_lt hgW, hst.out.step (by omega) hx hov hbW hgB (fun b hb' => by have := HFF.out b hb'; omega) hb.size (by have := HN.out; omega)⟩
        obtain ⟨X, hX⟩ : ∃ X, x.length = X := ⟨_, rfl⟩
        rw [hX] at d0 HCL
        clear hg hcl s3 s4 s5 hb q1 q2 q3 hx hX hst
        go_wp2_with (go_at_call 48; refine HCL.out.mono ?_; rintro e W ⟨va, vc, rfl, dW, zW, gW, hnx⟩)
        go_roundw
        case rel => exact ⟨k + 1, by go_num, by omega, hnx⟩
        case measure => simp [intOf]; omega
      · obtain rfl : k = N := by omega
        have HFIN : Hid (FreshL w.heap.size wr (some ⟨g, 0, none⟩) k cc L ∧ Below w.heap.size w wr) := by
          obtain ⟨cur, hg, hcl, s3, s4, s5, hb⟩ := hst.out
          have ho := own_of (B := w.heap.size) (n := k) (cap := cc) (size := 1) hg hgB hNc (by unfold maxLen; omega) (by rw [List.size_toArray, hcl]; omega)
          rw [Nat.mul_one] at ho
          refine ⟨⟨cur.take k, ho, by rw [List.length_take, HN.out]; omega, fun i x hx => ?_, fun i j vi vj hij hi hj => ?_⟩, hb⟩
          · have hil : i < k := by have := (List.getElem?_eq_some_iff.1 hx).1; have := HN.out; omega
            obtain ⟨v, q1, q2⟩ := s3 i x hil hx
            exact ⟨v, by rw [List.getElem?_take, if_pos hil]; exact q1, q2⟩
          · rw [List.getElem?_take] at hi hj
            split at hj
            · next hjk =>
              rw [if_pos (by omega)] at hi
              exact s4 i j vi vj hij hjk hi hj
            · cases hj
        clear hst
        go_wp2_with fail
        go_ret
        exact ⟨_, _, rfl, HFIN.out.1, HFIN.out.2⟩
end Go.Proofs.Ytndlebopfojjeaa.U
