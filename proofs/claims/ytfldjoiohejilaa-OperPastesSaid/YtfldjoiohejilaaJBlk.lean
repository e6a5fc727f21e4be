/-
  The document's block: a block put in. (MADE by wip/tools/gen_jblk.py.)
-/
import Derived.Test.YtfldjoiohejilaaJChr
import Derived.Test.YtfldjoiohejilaaJHdT
namespace Go.Proofs.Ytfldjoiohejilaa.U
open Go.RowKit
set_option linter.unusedVariables false
set_option linter.unusedSimpArgs false
set_option maxRecDepth 100000

theorem HdT.row {B : Nat} {w : World} {g n c : Nat} {L : List (List Int)} {i : Nat} {x : List Int} (h : HdT B w (some ⟨g, 0, none⟩) n c L) (hx : L[i]? = some x) :
    ∃ ra rc, w.cell? ⟨g, i, none⟩ = some (.slice ra x.length rc) ∧ w.frozen? ⟨g, i, none⟩ = false ∧ g < w.heap.size ∧ B ≤ g ∧ RdT B w ra x.length rc x := by
  have hl := h.len
  obtain ⟨vs, h1, h2⟩ := h
  obtain ⟨ra, m, rc, e1, e2⟩ := h2.2 i x hx
  obtain rfl : x.length = m := e2.1.1
  obtain ⟨hB, hgl⟩ := h1.lt g (by simp [Value.ownBlock])
  obtain ⟨cur, hg⟩ := own_heap h1 (k := g) (by simp [Value.ownBlock])
  have hin : i < n := by have := (List.getElem?_eq_some_iff.1 hx).1; omega
  obtain ⟨g', off, ea, -, hc⟩ := (Rc.own h1).at_ (by omega)
  cases ea
  have := hc i _ e1
  rw [Nat.zero_add] at this
  exact ⟨ra, rc, this, frozen_row hg i, hgl, hB, e2⟩
theorem HdT.setRow {B : Nat} {w : World} {g n c : Nat} {L : List (List Int)} {i : Nat} {x : List Int} {ra : Option Addr} {m rc : Nat} (h : HdT B w (some ⟨g, 0, none⟩) n c L) (hi : i < n) (hr : RdT B w ra m rc x) : HdT B (w.setCell ⟨g, i, none⟩ (.slice ra m rc)) (some ⟨g, 0, none⟩) n c (L.set i x) := by
  have hl := h.len
  obtain ⟨vs, h1, h2⟩ := h
  obtain ⟨cur, hg⟩ := own_heap h1 (k := g) (by simp [Value.ownBlock])
  have hf : Fr (fun k => k = g) w (w.setCell ⟨g, i, none⟩ (.slice ra m rc)) := (Fr.refl (fun k => k = g) w).setCell ⟨g, i, none⟩ _ (fun _ => rfl)
  have far : ∀ {ra : Option Addr} {m rc : Nat} {x : List Int}, RdT B w ra m rc x → RdT B (w.setCell ⟨g, i, none⟩ (.slice ra m rc)) ra m rc x := fun hr => hr.fr ((Fr.refl (fun k => k = g) w).setCell ⟨g, i, none⟩ _ (fun _ => rfl)) (fun k e cur2 hc => by
    subst e
    rw [hg] at hc
    injection hc with hc
    injection hc with _ hc
    revert hc
    decide)
  have far2 : ∀ {ra' : Option Addr} {m' rc' : Nat} {x' : List Int}, RdT B w ra' m' rc' x' → RdT B (w.setCell ⟨g, i, none⟩ (.slice ra m rc)) ra' m' rc' x' := fun hr => hr.fr hf (fun k e cur2 hc => by
    subst e
    rw [hg] at hc
    injection hc with hc
    injection hc with _ hc
    revert hc
    decide)
  refine ⟨vs.set i (.slice ra m rc), own_set h1 (by omega) _, by simp [h2.1], fun j z hz => ?_⟩
  by_cases e : j = i
  · subst e
    rw [List.getElem?_set_self (by omega)] at hz
    cases hz
    exact ⟨ra, m, rc, by rw [List.getElem?_set_self (by have := h2.1; omega)], far2 hr⟩
  · rw [List.getElem?_set_ne (fun h => e h.symm)] at hz
    obtain ⟨ra', m', rc', e1, e2⟩ := h2.2 j z hz
    exact ⟨ra', m', rc', by rw [List.getElem?_set_ne (fun h => e h.symm)]; exact e1, far2 e2⟩
theorem blockL_succ (L : List (List Int)) (q1 : Nat) (G : List (List Int)) (col m i : Nat) : blockL L q1 G col m (i + 1) = blockS q1 G col m (blockL L q1 G col m i) i := by
  unfold blockL
  rw [List.range_succ, List.foldl_append]
  rfl
theorem blockL_len {L : List (List Int)} {q1 : Nat} (h : q1 ≤ L.length) (G : List (List Int)) (col m i : Nat) : (blockL L q1 G col m i).length = max L.length (q1 + i) := by
  rw [blockL_parts h]
  simp only [List.length_append, List.length_take, List.length_drop, intoL_len]
  omega
/-- the lines with one more where they end -/
def moreL (O : List (List Int)) (j : Nat) : List (List Int) := if j = O.length then O ++ [[]] else O
theorem moreL_len {O : List (List Int)} {j : Nat} (h : j ≤ O.length) : j < (moreL O j).length := by
  unfold moreL
  split
  · simp; omega
  · omega
/-- the line that is next to be written over: as it was, or an empty one -/
theorem block_row {L : List (List Int)} {q1 : Nat} (h : q1 ≤ L.length) (G : List (List Int)) (col m i : Nat) : (moreL (blockL L q1 G col m i) (q1 + i))[q1 + i]? = some (lnL L (q1 + i)) := by
  have hl := blockL_len h G col m i
  have hf : (L.take q1 ++ intoL L q1 G col m i).length = q1 + i := by simp only [List.length_append, List.length_take, intoL_len]; omega
  unfold moreL
  by_cases hi : q1 + i < L.length
  · rw [if_neg (by omega), blockL_parts h, List.getElem?_append_right (by omega), hf, Nat.sub_self, List.getElem?_drop, Nat.add_zero, List.getElem?_eq_getElem hi, lnL_of (List.getElem?_eq_getElem hi)]
  · rw [if_pos (by omega), List.getElem?_append_right (by omega)]
    have : q1 + i - (blockL L q1 G col m i).length = 0 := by omega
    rw [this]
    have : lnL L (q1 + i) = [] := by unfold lnL; rw [List.getD_eq_getElem?_getD, List.getElem?_eq_none (by omega)]; rfl
    rw [this]
    rfl
theorem RdT.nil0 (B : Nat) (w : World) : RdT B w none 0 0 [] := ⟨Rd.none0 _ _, fun ad h => by omega⟩
theorem ChS.below {wb W W' : World} {oa : Option Addr} {on oc : Nat} {O : List (List Int)} (h : ChS wb oa on oc O W) (hb : Below W.heap.size W W') : ChS wb oa on oc O W' := ⟨h.1.below hb, btr h.2 hb⟩
theorem ChS.head {wb W : World} {oa : Option Addr} {on oc : Nat} {O : List (List Int)} (h : ChS wb oa on oc O W) (hn : 0 < on) : ∃ g, oa = some ⟨g, 0, none⟩ := by
  obtain ⟨⟨vs, h1, -⟩, -⟩ := h
  exact own_some h1 hn
/-- an empty line behind the lines -/
theorem ChS.more {wb W : World} {oa : Option Addr} {on oc : Nat} {O : List (List Int)} (h : ChS wb oa on oc O W) (hn : on ≤ 549755813888) :
    ∃ a' c' w', (∀ ty, (Builtin.append_ #[22, 22] ty #[.slice oa on oc, .slice (some ⟨W.heap.size, 0, none⟩) 1 1]).run Try.prog (W.alloc (.cells #[.slice none 0 0] 35)) = .ok (.slice a' (on + 1) c') w') ∧ ChS wb a' (on + 1) c' (O ++ [[]]) w' := by
  obtain ⟨a', c', w', h1, h2, h3, -⟩ := h.1.put1 (RdT.nil0 _ _) h.2.size hn
  exact ⟨a', c', w', h1, h2, h.2.trans h3⟩
/-- a line written over -/
theorem ChS.put {wb W : World} {g on oc i : Nat} {O : List (List Int)} {x z : List Int} {ra : Option Addr} {m rc : Nat} (h : ChS wb (some ⟨g, 0, none⟩) on oc O W) (hz : O[i]? = some z) (hr : RdT wb.heap.size W ra m rc x) : ChS wb (some ⟨g, 0, none⟩) on oc (O.set i x) (W.setCell ⟨g, i, none⟩ (.slice ra m rc)) := by
  obtain ⟨-, -, -, -, -, hB, -⟩ := h.1.row hz
  have hl := h.1.len
  have hi := (List.getElem?_eq_some_iff.1 hz).1
  exact ⟨h.1.setRow (by omega) hr, Below.setCell h.2 (by exact hB) _⟩
/-- a row begun with a part of another -/
theorem txs_lit {wb W : World} (hb : Below wb.heap.size wb W) {xa : Option Addr} {y xc : Nat} {x : List Int} (hx : Rd .i32 W xa y xc x) (hy : y ≤ 1048576) :
    ∃ a' c' w', (∀ ty, (Builtin.append_ #[35, 35] ty #[.slice (some ⟨W.heap.size, 0, none⟩) 0 0, .slice xa y xc]).run Try.prog (W.alloc (.cells #[] 21)) = .ok (.slice a' y c') w') ∧ TxS wb a' y c' x w' := by
  obtain ⟨a', c', w', h1, h2, h3⟩ := app_rd (W.alloc (.cells #[] 21)) W.heap.size _ 0 [] xa y xc x (World.ownsRow_lit W #[] 0 (Nat.le_refl _) (Nat.zero_le _) rfl) (by simp) (hx.below (bal _ _)) (by omega)
  rw [Nat.zero_add] at h1 h2
  rw [List.nil_append] at h2
  exact ⟨a', c', w', h1, own_mono h2 hb.size, btr hb ((bal W _).trans h3)⟩
end Go.Proofs.Ytfldjoiohejilaa.U
