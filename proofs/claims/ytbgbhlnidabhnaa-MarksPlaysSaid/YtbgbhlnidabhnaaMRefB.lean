/-
  The document's Get, Places, Forth.
-/
import Derived.Test.YtbgbhlnidabhnaaMRef
namespace Go.Proofs.Ytbgbhlnidabhnaa.U
open Go.RowKit
set_option linter.unusedVariables false
set_option linter.unusedSimpArgs false
set_option maxRecDepth 100000

theorem lookN_at {ns : List (Int × Po)} {r : Int} {i : Nat} {x : Int × Po} (hx : ns[i]? = some x) (he : x.1 = r) (hno : ∀ j, j < i → (ns.getD j mk0).1 ≠ r) : lookN ns r = some x.2 := by
  unfold lookN
  have hi := (List.getElem?_eq_some_iff.1 hx).1
  rw [List.find?_eq_some_iff_getElem.2 ⟨by simpa using he, i, hi, (List.getElem?_eq_some_iff.1 hx).2, fun j hj => ?_⟩]
  · rfl
  · have h := hno j hj
    rw [List.getD_eq_getElem?_getD, List.getElem?_eq_getElem (by omega)] at h
    simpa using h
theorem lookN_no {ns : List (Int × Po)} {r : Int} (hno : ∀ j, j < ns.length → (ns.getD j mk0).1 ≠ r) : lookN ns r = none := by
  unfold lookN
  rw [List.find?_eq_none.2 (fun x hx => ?_)]
  · rfl
  · obtain ⟨j, hj, rfl⟩ := List.getElem_of_mem hx
    have h := hno j hj
    rw [List.getD_eq_getElem?_getD, List.getElem?_eq_getElem hj] at h
    simpa using h

set_option maxHeartbeats 1000000 in
theorem rget_any {P : Nat → Prop} {bx : Nat} {s : Ms} {B : Int} (r : Int) (w : World) (h : RkS P w bx s) (hok : s.ok B) :
    Calls Try.prog 16 #[.pointer (some ⟨bx, 0, none⟩), .int .i32 r] w fun e w' => e = .returned (ansV (lookN s.ns r)) ∧ Below w.heap.size w w' := by
  obtain ⟨w1, hw1⟩ : ∃ w1, w.alloc (.cells #[.int .i64 0, .int .i64 0] 23) = w1 := ⟨_, rfl⟩
  have hb1 : Below w.heap.size w w1 := by rw [← hw1]; exact (Below.refl _ w).alloc (Nat.le_refl _) _
  have d0 : w1.cell? ⟨w.heap.size, 0, none⟩ = some (.int .i64 0) := by rw [← hw1, cell_of_row _ _ _ _ _ _ (heap_alloc_new w _)]; rfl
  have d1 : w1.cell? ⟨w.heap.size, 1, none⟩ = some (.int .i64 0) := by rw [← hw1, cell_of_row _ _ _ _ _ _ (heap_alloc_new w _)]; rfl
  have z0 : ∀ i, w1.frozen? ⟨w.heap.size, i, none⟩ = false := fun i => by rw [← hw1]; exact frozen_row (heap_alloc_new w _) i
  have z00 := z0 0
  have z01 := z0 1
  obtain ⟨na, nc, ja, jc, h1, h2, h3, h4, h5, p1, p2⟩ := h.below hb1
  have hbx : bx < w.heap.size := h.lt bx p1
  have e0 : w1.cell? ⟨bx, 0, none⟩ = some (.slice na s.ns.length nc) := by rw [cell_row h1]; rfl
  have hlen := names_len (sorted_nodup hok.sorted) (fun x hx => by
    obtain ⟨y, hy, e⟩ := List.mem_map.1 hx
    rw [← e]
    exact hok.names y hy)
  obtain ⟨ns, hns⟩ : ∃ ns, s.ns = ns := ⟨_, rfl⟩
  obtain ⟨n, hn⟩ : ∃ n, ns.length = n := ⟨_, rfl⟩
  rw [hns] at h2 e0 hlen ⊢
  rw [hn] at h2 e0
  have hn50 : n < 50 := by rw [List.length_map] at hlen; omega
  have HR := Lib.hid (And.intro h2 hn)
  have HB := Lib.hid hb1
  have HW := Lib.hid hw1
  clear h1 h2 h3 h4 h5 p1 p2 hlen hn hns hb1 z0 h
  go_enter Try.func16, Try.ntmps16
  go_wp2
  clear hw1
  go_loopw [6] (fun iv wr => ∃ i : Nat, iv = .int .i64 i ∧ i ≤ n ∧ wr = w1 ∧ Hid (∀ j, j < i → (ns.getD j mk0).1 ≠ r)) (fun iv _ => n - (intOf iv).toNat)
  case atStart => exact ⟨0, rfl, Nat.zero_le _, by first | rfl | exact HW.out, fun j hj => by omega⟩
  case round =>
    obtain ⟨i, rfl, hin, rfl, hno⟩ := hrel
    by_cases hlt : i < n
    · obtain ⟨b, off, rfl, hb, hl, c0, c1, c2⟩ := HR.out.1.mk (Below.refl _ _) hlt
      have hgx : ns[i]? = some (ns.getD i mk0) := by rw [List.getD_eq_getElem?_getD, List.getElem?_eq_getElem (by omega)]; rfl
      obtain ⟨x, hx⟩ : ∃ x, ns.getD i mk0 = x := ⟨_, rfl⟩
      rw [hx] at c0 c1 c2 hgx
      obtain ⟨xr, ⟨xl, xc⟩⟩ := x
      have HGX := Lib.hid (And.intro hgx hx)
      clear hgx hx hl
      by_cases hxr : xr = r
      · have HXR := Lib.hid hxr
        have hxe : (xr == r) = true := by simpa using hxr
        clear hxr
        go_wp2
        refine bodyPost_ret (v := .tuple #[.agg #[.int .i64 xl, .int .i64 xc], .bool true]) ?_ rfl ⟨?_, ?_⟩
        · rw [results_ct rfl]
          go_simp
        · rw [lookN_at HGX.out.1 HXR.out hno.out]
          rfl
        · exact (HB.out.setCell (Nat.le_refl _) _).setCell (Nat.le_refl _) _
      · have hxe : (xr == r) = false := by simpa using hxr
        have HXR := Lib.hid hxr
        clear hxr
        go_wp2
        go_roundw
        case rel =>
          refine ⟨i + 1, by go_num, by omega, by first | rfl | trivial, fun j hj => ?_⟩
          by_cases hji : j = i
          · subst hji
            rw [HGX.out.2]
            exact HXR.out
          · exact hno.out j (by omega)
        case measure => simp [intOf]; omega
    · obtain rfl : i = n := by omega
      go_wp2
      refine bodyPost_ret (v := .tuple #[.agg #[.int .i64 0, .int .i64 0], .bool false]) ?_ rfl ⟨?_, ?_⟩
      · rw [results_ct rfl]
        go_simp
      · rw [lookN_no (fun j hj => hno.out j (by rw [← HR.out.2]; exact hj))]
        rfl
      · first | exact HB.out | exact (HB.out.setCell (Nat.le_refl _) _).setCell (Nat.le_refl _) _

theorem RkS.stepIx {P : Nat → Prop} {w w1 w' : World} {bx : Nat} {s : Ms} (h : RkS P w bx s) (hb : Below w.heap.size w w1) (i : Nat) (hw : Below w.heap.size (w1.setCell ⟨bx, 2, none⟩ (.int .i64 (i : Nat))) w') : AfR P w w' bx ⟨s.ns, s.js, i⟩ := by
  have h1 := h.below hb
  obtain ⟨na, nc, ja, jc, q1, q2, q3, q4, q5, p1, p2⟩ := h1
  have hbx : bx < w.heap.size := h.lt bx p1
  have hfS : Fr (fun k => k = bx) w1 (w1.setCell ⟨bx, 2, none⟩ (.int .i64 (i : Nat))) := (Fr.refl (fun k => k = bx) w1).setCell ⟨bx, 2, none⟩ _ (fun _ => rfl)
  have hset := heap_set q1 2 (.int .i64 (i : Nat))
  have hle : w.heap.size ≤ (w1.setCell ⟨bx, 2, none⟩ (.int .i64 (i : Nat))).heap.size := Nat.le_trans hb.size hfS.size
  have hfB : Fr (fun k => w.heap.size ≤ k) (w1.setCell ⟨bx, 2, none⟩ (.int .i64 (i : Nat))) w' := ⟨hw.os, hw.tape, hw.output, hw.size, fun k _ hk => hw.block k (by omega)⟩
  refine ⟨P, ⟨na, nc, ja, jc, ?_, ?_, q3, ?_, q5, p1, fun k hk => ?_⟩, ?_, fun k hk => .inl hk⟩
  · rw [hw.block bx hbx, hset]
    rfl
  · exact (q2.frF q3 hfS (fun k hk => hk.2)).frF q3 hfB (fun k hk => by have := h.lt k hk.1; omega)
  · exact (q4.frF q5 hfS (fun k hk => hk.2)).frF q5 hfB (fun k hk => by have := h.lt k hk.1; omega)
  · exact Nat.lt_of_lt_of_le (h.lt k hk) (Nat.le_trans hle hw.size)
  · refine ((Fr.of_below P hb).trans (hfS.mono (fun y _ e => by rw [e]; exact p1)) (fun _ _ h => h)).trans hfB (fun y hy hk => by omega)

set_option maxHeartbeats 1000000 in
theorem rplaces_any (a1 a2 : Option Addr) (n1 n2 c1 c2 : Nat) (ps qs : List Po) (w : World) (h1 : Rc w a1 n1 c1 2 (fl ps)) (h2 : Rc w a2 n2 c2 2 (fl qs)) :
    Calls Try.prog 29 #[.slice a1 n1 c1, .slice a2 n2 c2] w fun e w' => e = .returned (.bool (decide (ps = qs))) ∧ Below w.heap.size w w' := by
  have s1 := h1.small
  have s2 := h2.small
  have l1 : ps.length = n1 := by have := h1.1; rw [fl_len] at this; omega
  have l2 : qs.length = n2 := by have := h2.1; rw [fl_len] at this; omega
  by_cases hn : n1 = n2
  · subst hn
    have H := Lib.hid (And.intro h1 (And.intro h2 (And.intro l1 l2)))
    clear h1 h2 l1 l2
    go_enter Try.func29, Try.ntmps29
    go_wp2
    go_loopw [5] (fun iv wr => ∃ i : Nat, iv = .int .i64 i ∧ i ≤ n1 ∧ Hid (Below w.heap.size w wr ∧ ∀ j, j < i → ps.getD j po0 = qs.getD j po0)) (fun iv _ => n1 - (intOf iv).toNat)
    case atStart => exact ⟨0, rfl, Nat.zero_le _, Below.refl _ _, fun j hj => by omega⟩
    case round =>
      obtain ⟨i, rfl, hin, HS⟩ := hrel
      by_cases hlt : i < n1
      · obtain ⟨b, off, rfl, hb, hl, d0, d1⟩ := H.out.1.po HS.out.1 hlt
        obtain ⟨b2, off2, rfl, hb2, hl2, d2, d3⟩ := H.out.2.1.po HS.out.1 hlt
        obtain ⟨p, hp⟩ : ∃ p, ps.getD i po0 = p := ⟨_, rfl⟩
        obtain ⟨q, hq⟩ : ∃ q, qs.getD i po0 = q := ⟨_, rfl⟩
        rw [hp] at d0 d1
        rw [hq] at d2 d3
        obtain ⟨pl, pc⟩ := p
        obtain ⟨ql, qc⟩ := q
        have HP := Lib.hid (And.intro hp hq)
        clear hp hq hl hl2
        by_cases hpq : (⟨pl, pc⟩ : Po) = ⟨ql, qc⟩
        · injection hpq with e1 e2
          subst e1
          subst e2
          go_wp2
          go_quiet (fail)
          go_wp2
          refine ⟨⟨i + 1, by go_num, by omega, bdrewN HS.out.1 nq, fun j hj => ?_⟩, by simp [intOf]; omega⟩
          by_cases hji : j = i
          · subst hji
            rw [HP.out.1, HP.out.2]
          · exact HS.out.2 j (by omega)
        · have hf : decide (ps = qs) = false := by
            rw [decide_eq_false_iff_not]
            intro e
            apply hpq
            rw [← HP.out.1, ← HP.out.2, e]
          have HF := Lib.hid hf
          clear hf
          by_cases hl : pl = ql
          · subst hl
            have hc : (pc == qc) = false := by
              simp only [beq_eq_false_iff_ne]
              rintro rfl
              exact hpq rfl
            clear hpq
            go_wp2
            go_quiet (fail)
            go_wp2
            go_ret
            exact ⟨by rw [HF.out]; rfl, bdrewN HS.out.1 nq⟩
          · have hc : (pl == ql) = false := by simpa using hl
            clear hpq hl
            go_wp2
            go_quiet (fail)
            go_wp2
            go_ret
            exact ⟨by rw [HF.out]; rfl, bdrewN HS.out.1 nq⟩
      · obtain rfl : i = n1 := by omega
        go_wp2
        go_ret
        have : ps = qs := by
          refine List.ext_getElem (by rw [H.out.2.2.1, H.out.2.2.2]) (fun j hj1 hj2 => ?_)
          have h := HS.out.2 j (by rw [← H.out.2.2.1]; exact hj1)
          rw [List.getD_eq_getElem?_getD, List.getD_eq_getElem?_getD, List.getElem?_eq_getElem hj1, List.getElem?_eq_getElem hj2] at h
          simpa using h
        exact ⟨by simp [this], HS.out.1⟩
  · have hne : ((n1 : Int) != (n2 : Int)) = true := by simp; omega
    have hf : decide (ps = qs) = false := by
      rw [decide_eq_false_iff_not]
      rintro rfl
      omega
    rw [hf]
    go_enter Try.func29, Try.ntmps29
    go_wp2
    go_ret
    exact ⟨rfl, Below.refl _ _⟩
end Go.Proofs.Ytbgbhlnidabhnaa.U
