/-
  The document's registers in memory; holds.
-/
import Derived.Test.YtleidcegbfnmkaaGLeaf
namespace Go.Proofs.Ytleidcegbfnmkaa.U
open Go.RowKit
set_option linter.unusedVariables false
set_option linter.unusedSimpArgs false
set_option maxRecDepth 100000

/-- the document's registers in memory; P: all their blocks -/
def RSt (P : Nat → Prop) (w : World) (bx : Nat) (s : List Nm) : Prop :=
  ∃ (a : Option Addr) (c : Nat), w.heap[bx]? = some (.cells #[.slice a s.length c] 28 (0, 0)) ∧ RdN (fun k => P k ∧ k ≠ bx) w a s.length c s ∧ P bx ∧ (∀ k, P k → k < w.heap.size)
/-- what a call leaves -/
def AfS (P : Nat → Prop) (w w' : World) (bx : Nat) (s : List Nm) : Prop := ∃ P', RSt P' w' bx s ∧ Fr (fun k => k = bx) w w' ∧ ∀ k, P' k → P k ∨ w.heap.size ≤ k
section
variable {P Q : Nat → Prop} {w w' : World} {bx : Nat} {s : List Nm}
theorem RSt.lt (h : RSt P w bx s) : ∀ k, P k → k < w.heap.size := by obtain ⟨_, _, _, _, _, h⟩ := h; exact h
theorem RSt.box (h : RSt P w bx s) : P bx := by obtain ⟨_, _, _, _, h, _⟩ := h; exact h
theorem RSt.fr {F : Nat → Prop} (h : RSt P w bx s) (hf : Fr F w w') (hd : ∀ k, P k → ¬ F k) : RSt P w' bx s := by
  obtain ⟨a, c, h1, h2, p1, p2⟩ := h
  exact ⟨a, c, (hf.block bx (heap_lt h1) (hd bx p1)).trans h1, h2.frF hf (fun k hk => hd k hk.1), p1, fun k hk => Nat.lt_of_lt_of_le (p2 k hk) hf.size⟩
theorem RSt.below (h : RSt P w bx s) (hb : Below w.heap.size w w') : RSt P w' bx s := h.fr (Fr.of_below (fun _ => False) hb) (fun _ _ h => h)
theorem RSt.same (h : RSt P w bx s) (hb : Below w.heap.size w w') : AfS P w w' bx s := ⟨P, h.below hb, Fr.of_below _ hb, fun k hk => .inl hk⟩
theorem AfS.trans {w2 : World} {s2 : List Nm} (h : AfS P w w' bx s) (hk : ∀ P', RSt P' w' bx s → AfS P' w' w2 bx s2) : AfS P w w2 bx s2 := by
  obtain ⟨P', h1, h2, h3⟩ := h
  obtain ⟨P2, k1, k2, k3⟩ := hk P' h1
  refine ⟨P2, k1, h2.trans k2 (fun _ _ h => h), fun k hk => ?_⟩
  rcases k3 k hk with e | e
  · exact h3 k e
  · exact .inr (Nat.le_trans h2.size e)
end
theorem holdsR_at {s : List Nm} {r : Int} {i : Nat} {x : Nm} (hx : s[i]? = some x) (he : x.1 = r) (hno : ∀ j, j < i → (s.getD j nm0).1 ≠ r) : holdsR s r = some x.2 := by
  unfold holdsR
  have hi := (List.getElem?_eq_some_iff.1 hx).1
  rw [List.find?_eq_some_iff_getElem.2 ⟨by simpa using he, i, hi, (List.getElem?_eq_some_iff.1 hx).2, fun j hj => ?_⟩]
  · rfl
  · have h := hno j hj
    rw [List.getD_eq_getElem?_getD, List.getElem?_eq_getElem (by omega)] at h
    simpa using h
theorem holdsR_no {s : List Nm} {r : Int} (hno : ∀ j, j < s.length → (s.getD j nm0).1 ≠ r) : holdsR s r = none := by
  unfold holdsR
  rw [List.find?_eq_none.2 (fun x hx => ?_)]
  · rfl
  · obtain ⟨j, hj, rfl⟩ := List.getElem_of_mem hx
    have h := hno j hj
    rw [List.getD_eq_getElem?_getD, List.getElem?_eq_getElem hj] at h
    simpa using h
/-- what holds tells -/
def HoldA (F : Nat → Prop) (w : World) (o : Option Rg) (e : Ending) : Prop :=
  match o with
  | some r => ∃ a c, e = .returned (.tuple #[rgV r.k a r.L.length c, .bool true]) ∧ RdL F w a r.L.length c r.L
  | none => e = .returned (.tuple #[rgV 0 none 0 0, .bool false])
set_option maxHeartbeats 1000000 in
theorem rholds_any {P : Nat → Prop} {bx : Nat} {s : List Nm} (r : Int) (w : World) (h : RSt P w bx s) (hok : OkS s) :
    Calls Try.prog 26 #[.pointer (some ⟨bx, 0, none⟩), .int .i32 r] w fun e w' => HoldA (fun k => P k ∧ k ≠ bx) w' (holdsR s r) e ∧ Below w.heap.size w w' := by
  obtain ⟨w1, hw1⟩ : ∃ w1, w.alloc (.cells #[.int .i64 0, .slice none 0 0] 31) = w1 := ⟨_, rfl⟩
  have hb1 : Below w.heap.size w w1 := by rw [← hw1]; exact (Below.refl _ w).alloc (Nat.le_refl _) _
  have d0 : w1.cell? ⟨w.heap.size, 0, none⟩ = some (.int .i64 0) := by rw [← hw1, cell_of_row _ _ _ _ _ _ (heap_alloc_new w _)]; rfl
  have d1 : w1.cell? ⟨w.heap.size, 1, none⟩ = some (.slice none 0 0) := by rw [← hw1, cell_of_row _ _ _ _ _ _ (heap_alloc_new w _)]; rfl
  have z0 : ∀ i, w1.frozen? ⟨w.heap.size, i, none⟩ = false := fun i => by rw [← hw1]; exact frozen_row (heap_alloc_new w _) i
  have z00 := z0 0
  have z01 := z0 1
  obtain ⟨a, c, h1, h2, p1, p2⟩ := h.below hb1
  have hbx : bx < w.heap.size := h.lt bx p1
  have e0 : w1.cell? ⟨bx, 0, none⟩ = some (.slice a s.length c) := by rw [cell_row h1]; rfl
  have hlen := hok.len
  obtain ⟨n, hn⟩ : ∃ n, s.length = n := ⟨_, rfl⟩
  rw [hn] at h2 e0 hlen
  have hlt0 : ∀ k, P k → k < w.heap.size := h.lt
  have HR := Lib.hid (And.intro h2 (And.intro hn hlt0))
  have HB := Lib.hid hb1
  have HW := Lib.hid hw1
  clear h1 h2 p1 p2 hn hb1 z0 h hlt0
  go_enter Try.func26, Try.ntmps26
  go_wp2
  clear hw1
  go_loopw [6] (fun iv wr => ∃ i : Nat, iv = .int .i64 i ∧ i ≤ n ∧ wr = w1 ∧ Hid (∀ j, j < i → (s.getD j nm0).1 ≠ r)) (fun iv _ => n - (intOf iv).toNat)
  case atStart => exact ⟨0, rfl, Nat.zero_le _, by first | rfl | exact HW.out, fun j hj => by omega⟩
  case round =>
    obtain ⟨i, rfl, hin, rfl, hno⟩ := hrel
    by_cases hlt : i < n
    · have hgx : s[i]? = some (s.getD i nm0) := by rw [List.getD_eq_getElem?_getD, List.getElem?_eq_getElem (by have := HR.out.2.1; omega)]; rfl
      obtain ⟨x, hx⟩ : ∃ x, s.getD i nm0 = x := ⟨_, rfl⟩
      rw [hx] at hgx
      obtain ⟨b, off, ra, rc, rfl, hb, hF, c0, c1, c2, hrd⟩ := HR.out.1.get (Below.refl _ _) hgx
      obtain ⟨xr, ⟨xk, xL⟩⟩ := x
      have HGX := Lib.hid (And.intro hgx (And.intro hx hrd))
      simp only at c0 c1 c2
      obtain ⟨m, hm⟩ : ∃ m, xL.length = m := ⟨_, rfl⟩
      have HM := Lib.hid hm
      rw [hm] at c2
      clear hgx hx hm hrd hF
      by_cases hxr : xr = r
      · have HXR := Lib.hid hxr
        have hxe : (xr == r) = true := by simpa using hxr
        clear hxr
        go_wp2
        refine bodyPost_ret (v := .tuple #[.agg #[.int .i64 xk, .slice ra m rc], .bool true]) ?_ rfl ⟨?_, ?_⟩
        · rw [results_ct rfl]
          go_simp
        · rw [holdsR_at HGX.out.1 HXR.out hno.out]
          refine ⟨ra, rc, by rw [HM.out]; rfl, ?_⟩
          refine HGX.out.2.2.frF (G := fun k => w.heap.size ≤ k) ?_ (fun k hk hle => by have := HR.out.2.2 k hk.1; omega)
          exact ((Fr.refl (fun k => w.heap.size ≤ k) _).setCell ⟨w.heap.size, 0, none⟩ _ (fun _ => Nat.le_refl _)).setCell ⟨w.heap.size, 1, none⟩ _ (fun _ => Nat.le_refl _)
        · exact (HB.out.setCell (Nat.le_refl _) _).setCell (Nat.le_refl _) _
      · have hxe : (xr == r) = false := by simpa using hxr
        have HXR := Lib.hid hxr
        clear hxr
        go_wp2
        go_roundw
        case rel =>
          refine ⟨i + 1, by go_num, by omega, by first | rfl | trivial, fun j hj => ?_⟩
          by_cases hji : j = i
          · subst hji
            rw [HGX.out.2.1]
            exact HXR.out
          · exact hno.out j (by omega)
        case measure => simp [intOf]; omega
    · obtain rfl : i = n := by omega
      go_wp2
      refine bodyPost_ret (v := .tuple #[.agg #[.int .i64 0, .slice none 0 0], .bool false]) ?_ rfl ⟨?_, ?_⟩
      · rw [results_ct rfl]
        go_simp
      · rw [holdsR_no (fun j hj => hno.out j (by rw [← HR.out.2.1]; exact hj))]
        rfl
      · first | exact HB.out | exact (HB.out.setCell (Nat.le_refl _) _).setCell (Nat.le_refl _) _
end Go.Proofs.Ytleidcegbfnmkaa.U
