/-
  The document's Parse.
-/
import Derived.Test.YtkjiobbkbhmijaaRfAlts
namespace Go.Proofs.Ytkjiobbkbhmijaa.U
open Go.RowKit
set_option linter.unusedVariables false
set_option linter.unusedSimpArgs false
set_option maxRecDepth 100000

theorem PrAns.err {w w' : World} {c : Int} (h : Below w.heap.size w w') : PrAns w (.error c) (.returned (.tuple #[.agg #[.int .i64 0, .int .i32 0, .slice none 0 0, .bool false, .int .i64 0, .int .i64 0, .slice none 0 0], .int .i64 c])) w' := ⟨rfl, h⟩
theorem PrAns.okk {w w' : World} {y : Re} {n : Nat} {k4 r4 : Int} {sa4 : Option Addr} {sn4 sc4 : Nat} {nt4 : Bool} {l4 h4 : Int} {pa4 : Option Addr} {pn4 pc4 : Nat} (h : ReAt (New w w') w' [.int .i64 k4, .int .i32 r4, .slice sa4 sn4 sc4, .bool nt4, .int .i64 l4, .int .i64 h4, .slice pa4 pn4 pc4] y) (hb : Below w.heap.size w w') : PrAns w (.ok (y, n)) (.returned (.tuple #[.agg #[.int .i64 k4, .int .i32 r4, .slice sa4 sn4 sc4, .bool nt4, .int .i64 l4, .int .i64 h4, .slice pa4 pn4 pc4], .int .i64 0])) w' := ⟨k4, r4, sa4, sn4, sc4, nt4, l4, h4, pa4, pn4, pc4, rfl, h, hb⟩
set_option maxHeartbeats 4000000 in
theorem rparse_any (a : Option Addr) (len cap : Nat) (p : List Int) (w : World) (hr : Rd .i32 w a len cap p) (hl : len ≤ 99999) :
    Calls Try.prog 9 #[.slice a len cap] w (PrAns w (parse p)) := by
  have hlen : p.length = len := hr.1
  have hsm := hr.small
  obtain ⟨w1, hw1, hb1, hg1⟩ := res7 w
  obtain ⟨br, hbr⟩ : ∃ br, w1.heap.size = br := ⟨_, rfl⟩
  obtain ⟨w2, hw2⟩ : ∃ w2, w1.alloc (.cells #[.slice a len cap, .int .i64 0, .int .i64 0, .int .i64 0, .int .i64 0] 45) = w2 := ⟨_, rfl⟩
  have hb2 : Below w1.heap.size w1 w2 := by rw [← hw2]; exact bal _ _
  have hg2 : w2.heap[br]? = some (.cells #[.slice a len cap, .int .i64 0, .int .i64 0, .int .i64 0, .int .i64 0] 45 (0, 0)) := by rw [← hbr, ← hw2]; exact heap_alloc_new w1 _
  have hwb : w.heap.size < br := by rw [← hbr]; exact heap_lt hg1
  have hr2 : Rd .i32 w2 a len cap p := (hr.below hb1).below hb2
  have hin : InF (fun k => k < br) a len := (hr.inHeap).mono (fun k hk => by omega)
  have hRS : RfS w2 br p 0 0 0 0 := ⟨a, cap, by rw [hlen]; exact hg2, by rw [hlen]; exact hr2, by rw [hlen]; exact hin⟩
  have hRN : RfN w2 br p p 0 0 := ⟨0, hRS, by simp, by omega, by omega, by omega, by omega⟩
  have HALT : Hid (Calls Try.prog 20 #[.pointer (some ⟨br, 0, none⟩)] w2 (RfAns w2 br p 0 (alts 17 p 0 0))) := ralts_all 16 0 rfl br p p 0 w2 (by omega) hRN
  have HGR : Hid (∀ W, Fr (fun j => j = br) w2 W → W.heap[w.heap.size]? = some (.cells #[.int .i64 0, .int .i32 0, .slice none 0 0, .bool false, .int .i64 0, .int .i64 0, .slice none 0 0] 26 (0, 0))) := by
    intro W hW
    have h1 := heap_lt hg1
    rw [hW.block _ (by have := hb2.size; omega) (by omega), hb2.block _ h1]
    exact hg1
  have HFB : Hid (∀ W W', Fr (fun j => j = br) w2 W → Fr (fun j => j = w.heap.size) W W' → Below w.heap.size w W') := by
    intro W W' h1 h2
    have h3 : Fr (fun k => w.heap.size ≤ k) w W' := (((Fr.of_below (fun k => w.heap.size ≤ k) hb1).trans (Fr.of_below (fun _ => False) hb2) (fun _ _ h => h.elim)).trans h1 (fun k _ e => by omega)).trans h2 (fun k _ e => by omega)
    exact h3.below (Nat.le_refl _) (fun k hk => hk)
  obtain ⟨R0, hR0⟩ : ∃ R0, parse p = R0 := ⟨_, rfl⟩
  rw [hR0]
  have hpf : R0 = match alts 17 p 0 0 with
      | .error e => .error e
      | .ok (x, l, n) => if 0 < l.length then .error 10 else if 400 < x.sz then .error 12 else .ok (x, n) := by rw [← hR0]; rfl
  have hnz0 := alts_nz 17 0 rfl (by omega) p 0
  have hn17 := alts_tame 17 p 0 0
  have HW1 := Lib.hid hw1
  have HW2 := Lib.hid hw2
  have HBR := Lib.hid hbr
  have HLEN := Lib.hid hlen
  clear hw1 hb1 hg1 hw2 hb2 hg2 hr2 hin hRS hRN hr hR0 hbr hlen
  cases hq : alts 17 p 0 0 with
  | error c =>
    rw [hq] at hpf HALT hnz0
    have HR9 : Hid (R0 = .error c) := hpf
    have hc0 : (c != 0) = true := by simpa using hnz0
    have hc1 : (c == 0) = false := by simpa using hnz0
    have HOP : Hid (∀ e w5, RfAns w2 br p 0 (.error c) e w5 → ∃ k4 r4 sa4 sn4 sc4 nt4 l4 h4 pa4 pn4 pc4 w6, e = .returned (.agg #[.int .i64 k4, .int .i32 r4, .slice sa4 sn4 sc4, .bool nt4, .int .i64 l4, .int .i64 h4, .slice pa4 pn4 pc4]) ∧ w5.alloc (.cells #[.int .i64 k4, .int .i32 r4, .slice sa4 sn4 sc4, .bool nt4, .int .i64 l4, .int .i64 h4, .slice pa4 pn4 pc4] 26) = w6 ∧ w6.cell? ⟨br, 4, none⟩ = some (.int .i64 c) ∧ Hid (Fr (fun j => j = br) w2 w6)) := by
      rintro e w5 ⟨k4, r4, sa4, sn4, sc4, nt4, l4, h4, pa4, pn4, pc4, rfl, hx, hf⟩
      have hb6 := bal w5 (.cells #[.int .i64 k4, .int .i32 r4, .slice sa4 sn4 sc4, .bool nt4, .int .i64 l4, .int .i64 h4, .slice pa4 pn4 pc4] 26)
      exact ⟨k4, r4, sa4, sn4, sc4, nt4, l4, h4, pa4, pn4, pc4, _, rfl, rfl, (hx.below hb6).cell4, hf.trans (Fr.of_below (fun _ => False) hb6) (fun _ _ h => h.elim)⟩
    clear hq hpf hnz0 hn17
    go_enter Try.func9, Try.ntmps9
    go_upto_region 1 with fail
    rw [HW1.out]
    go_upto_region 2 with fail
    rw [HW2.out, HBR.out]
    go_upto_region 3 with (go_at_call 20; refine HALT.out.mono ?_; intro e w5 hh; obtain ⟨k4, r4, sa4, sn4, sc4, nt4, l4, h4, pa4, pn4, pc4, w6, he, hw6, hc4, H6⟩ := HOP.out e w5 hh; subst he; clear hh)
    (try rw [hw6])
    clear hw6
    have HG6 := Lib.hid (HGR.out w6 H6.out)
    obtain ⟨a0, a1, a2, a3, a4, a5, a6, z0, z1, z2, z3, z4, z5, z6⟩ := row7 HG6.out
    have HPUT := Lib.hid (put7 HG6.out (.int .i64 0) (.int .i32 0) (.slice none 0 0) (.bool false) (.int .i64 0) (.int .i64 0) (.slice none 0 0))
    have HFIN : Hid (∀ W, Fr (fun j => j = w.heap.size) w6 W → PrAns w R0 (.returned (.tuple #[.agg #[.int .i64 0, .int .i32 0, .slice none 0 0, .bool false, .int .i64 0, .int .i64 0, .slice none 0 0], .int .i64 c])) W) := by
      intro W hW
      rw [HR9.out]
      exact PrAns.err (HFB.out _ _ H6.out hW)
    go_upto_region 6 with fail
    go_region
    all_goals
      go_wp2
      refine bodyPost_ret (v := .tuple #[.agg #[.int .i64 0, .int .i32 0, .slice none 0 0, .bool false, .int .i64 0, .int .i64 0, .slice none 0 0], .int .i64 c]) ?_ rfl ?_
      · rw [results_ct rfl]
        go_simp
      · refine HFIN.out _ ?_
        (try with_reducible refine Fr.drew ?_)
        (repeat' (with_reducible refine Fr.setCell ?_ _ _ ?_)) <;> first | with_reducible exact Fr.refl _ _ | with_reducible exact (Fr.refl _ _).drew | exact fun _ => rfl
  | ok qa =>
    obtain ⟨x, l, n⟩ := qa
    rw [hq] at hpf HALT
    have hpf : R0 = if 0 < l.length then .error 10 else if 400 < x.sz then .error 12 else .ok (x, n) := hpf
    have htame : x.tame := hn17 x l n hq (by have := HLEN.out; omega)
    have HOP : Hid (∀ e w5, RfAns w2 br p 0 (.ok (x, l, n)) e w5 → ∃ k4 r4 sa4 sn4 sc4 nt4 l4 h4 pa4 pn4 pc4 w6, e = .returned (.agg #[.int .i64 k4, .int .i32 r4, .slice sa4 sn4 sc4, .bool nt4, .int .i64 l4, .int .i64 h4, .slice pa4 pn4 pc4]) ∧ w5.alloc (.cells #[.int .i64 k4, .int .i32 r4, .slice sa4 sn4 sc4, .bool nt4, .int .i64 l4, .int .i64 h4, .slice pa4 pn4 pc4] 26) = w6 ∧ w6.heap[w5.heap.size]? = some (.cells #[.int .i64 k4, .int .i32 r4, .slice sa4 sn4 sc4, .bool nt4, .int .i64 l4, .int .i64 h4, .slice pa4 pn4 pc4] 26 (0, 0)) ∧ Hid (RfN w6 br p l n 0) ∧ Hid (Fr (fun j => j = br) w2 w6) ∧ Hid (br < w5.heap.size) ∧ Hid (ReAt (fun k => br < k ∧ k < w5.heap.size) w6 [.int .i64 k4, .int .i32 r4, .slice sa4 sn4 sc4, .bool nt4, .int .i64 l4, .int .i64 h4, .slice pa4 pn4 pc4] x)) := by
      rintro e w5 ⟨k4, r4, sa4, sn4, sc4, nt4, l4, h4, pa4, pn4, pc4, rfl, hre, hx, hf⟩
      have hb6 := bal w5 (.cells #[.int .i64 k4, .int .i32 r4, .slice sa4 sn4 sc4, .bool nt4, .int .i64 l4, .int .i64 h4, .slice pa4 pn4 pc4] 26)
      have hs := hf.size
      have hlt : br < w2.heap.size := by rw [← HW2.out, ← HBR.out]; simp
      exact ⟨k4, r4, sa4, sn4, sc4, nt4, l4, h4, pa4, pn4, pc4, _, rfl, rfl, heap_alloc_new w5 _, hx.below hb6, hf.trans (Fr.of_below (fun _ => False) hb6) (fun _ _ h => h.elim), by show _ < _; omega, ReAt.mono (fun k hk => ⟨by have := hk.1; omega, hk.2⟩) x (ReAt.frF (Fr.of_below (fun _ => False) hb6) (fun _ _ h => h) x hre)⟩
    have HPF := Lib.hid hpf
    have HTM := Lib.hid htame
    clear hq hpf hnz0 hn17 htame
    go_enter Try.func9, Try.ntmps9
    go_upto_region 1 with fail
    rw [HW1.out]
    go_upto_region 2 with fail
    rw [HW2.out, HBR.out]
    go_upto_region 3 with (go_at_call 20; refine HALT.out.mono ?_; intro e w5 hh; obtain ⟨k4, r4, sa4, sn4, sc4, nt4, l4, h4, pa4, pn4, pc4, w6, he, hw6, hx5, HN6, H6, HLT, HRE6⟩ := HOP.out e w5 hh; subst he; clear hh)
    (try rw [hw6])
    obtain ⟨X, hX⟩ : ∃ X, w5.heap.size = X := ⟨_, rfl⟩
    rw [hX] at hx5 HLT HRE6
    (try rw [hX])
    clear hw6 hX
    have HX5 := Lib.hid hx5
    obtain ⟨x0, x1, x2, x3, x4, x5, x6, -⟩ := row7 hx5
    obtain ⟨pa, pcap, i, e0, e1, e2, e3, e4, fz, hr, hsi, hld, hi, hnn, hpp, ho⟩ := HN6.out.cells
    have e4f := fz 4
    have hil : i ≤ len := by have := HLEN.out; omega
    have HSI := Lib.hid hsi
    have HLD := Lib.hid hld
    clear hx5 fz hr hsi hld hi hnn hpp ho e0 e2 e3
    by_cases hlt : i < len
    · have g1 : (i : Int) < (len : Int) := by omega
      have HR9 : Hid (R0 = .error 10) := by
        show _ = _
        rw [HPF.out, if_pos (by rw [HLD.out, List.length_drop]; have := HLEN.out; omega)]
      have hT := HSI.out.setE 10
      obtain ⟨w7, hw7⟩ : ∃ w7, w6.setCell ⟨br, 4, none⟩ (.int .i64 10) = w7 := ⟨_, rfl⟩
      rw [hw7] at hT
      have H7 : Hid (Fr (fun j => j = br) w2 w7) := H6.out.trans hT.2 (fun _ _ h => h)
      have hc4 : w7.cell? ⟨br, 4, none⟩ = some (.int .i64 10) := RfX.cell4 ⟨_, _, _, hT.1⟩
      have HG7 := Lib.hid (HGR.out w7 H7.out)
      have HW7 := Lib.hid hw7
      have HPUT := Lib.hid (put7 HG7.out (.int .i64 0) (.int .i32 0) (.slice none 0 0) (.bool false) (.int .i64 0) (.int .i64 0) (.slice none 0 0))
      clear hT hw7
      go_upto_region 5 with fail
      rw [HW7.out]
      clear e4 e4f e1 x0 x1 x2 x3 x4 x5 x6
      obtain ⟨a0, a1, a2, a3, a4, a5, a6, z0, z1, z2, z3, z4, z5, z6⟩ := row7 HG7.out
      have HFIN : Hid (∀ W, Fr (fun j => j = w.heap.size) w7 W → PrAns w R0 (.returned (.tuple #[.agg #[.int .i64 0, .int .i32 0, .slice none 0 0, .bool false, .int .i64 0, .int .i64 0, .slice none 0 0], .int .i64 10])) W) := by
        intro W hW
        rw [HR9.out]
        exact PrAns.err (HFB.out _ _ H7.out hW)
      go_upto_region 6 with fail
      go_region
      all_goals
        go_wp2
        refine bodyPost_ret (v := .tuple #[.agg #[.int .i64 0, .int .i32 0, .slice none 0 0, .bool false, .int .i64 0, .int .i64 0, .slice none 0 0], .int .i64 10]) ?_ rfl ?_
        · rw [results_ct rfl]
          go_simp
        · refine HFIN.out _ ?_
          (try with_reducible refine Fr.drew ?_)
          (repeat' (with_reducible refine Fr.setCell ?_ _ _ ?_)) <;> first | with_reducible exact Fr.refl _ _ | with_reducible exact (Fr.refl _ _).drew | exact fun _ => rfl
    · have g1 : ¬ (i : Int) < (len : Int) := by omega
      have hR1 : R0 = if 400 < x.sz then .error 12 else .ok (x, n) := by
        rw [HPF.out, if_neg (by rw [HLD.out, List.length_drop]; have := HLEN.out; omega)]
      obtain ⟨s, hs⟩ : ∃ s : Int, ((min x.sz 401 : Nat) : Int) = s := ⟨_, rfl⟩
      have HSIZE : Hid (Calls Try.prog 21 #[.agg #[.int .i64 k4, .int .i32 r4, .slice sa4 sn4 sc4, .bool nt4, .int .i64 l4, .int .i64 h4, .slice pa4 pn4 pc4]] w6 fun e w' => e = .returned (.int .i64 s) ∧ Below w6.heap.size w6 w') := by
        have := size_any x _ _ w6 HTM.out HRE6.out
        rw [hs] at this
        exact this
      have HKX : Hid (∀ w8, Below w6.heap.size w6 w8 → w8.heap[X]? = some (.cells #[.int .i64 k4, .int .i32 r4, .slice sa4 sn4 sc4, .bool nt4, .int .i64 l4, .int .i64 h4, .slice pa4 pn4 pc4] 26 (0, 0)) ∧ w8.heap[w.heap.size]? = some (.cells #[.int .i64 0, .int .i32 0, .slice none 0 0, .bool false, .int .i64 0, .int .i64 0, .slice none 0 0] 26 (0, 0))) := fun w8 h8 => ⟨(h8.block X (heap_lt HX5.out)).trans HX5.out, HGR.out w8 (H6.out.trans (Fr.of_below (fun _ => False) h8) (fun _ _ h => h.elim))⟩
      have HF8 : Hid (∀ w8, Below w6.heap.size w6 w8 → Fr (fun j => j = br) w2 w8) := fun w8 h8 => H6.out.trans (Fr.of_below (fun _ => False) h8) (fun _ _ h => h.elim)
      by_cases h400 : 400 < x.sz
      · have HR9 : Hid (R0 = .error 12) := by show _ = _; rw [hR1, if_pos h400]
        have g4 : 400 < s := by omega
        clear hR1 hs h400
        go_wp2_with (go_at_call 21; refine HSIZE.out.mono ?_; rintro e w8 ⟨rfl, hb8⟩; have HF := Lib.hid (HF8.out w8 hb8); have HG8 := Lib.hid (HKX.out w8 hb8).2; clear hb8; obtain ⟨a0, a1, a2, a3, a4, a5, a6, z0, z1, z2, z3, z4, z5, z6⟩ := row7 HG8.out)
        have HPUT := Lib.hid (put7 HG8.out (.int .i64 0) (.int .i32 0) (.slice none 0 0) (.bool false) (.int .i64 0) (.int .i64 0) (.slice none 0 0))
        refine bodyPost_ret (v := .tuple #[.agg #[.int .i64 0, .int .i32 0, .slice none 0 0, .bool false, .int .i64 0, .int .i64 0, .slice none 0 0], .int .i64 12]) ?_ rfl ?_
        · rw [results_ct rfl]
          go_simp
        · show PrAns w R0 _ _
          rw [HR9.out]
          exact PrAns.err (HFB.out _ _ HF.out HPUT.out.2)
      · have HR9 : Hid (R0 = .ok (x, n)) := by show _ = _; rw [hR1, if_neg h400]
        have g4 : ¬ 400 < s := by omega
        clear hR1 hs h400
        go_wp2_with (go_at_call 21; refine HSIZE.out.mono ?_; rintro e w8 ⟨rfl, hb8⟩; have HB8 := Lib.hid hb8; have HF := Lib.hid (HF8.out w8 hb8); have HX8 := Lib.hid (HKX.out w8 hb8).1; have HG8 := Lib.hid (HKX.out w8 hb8).2; clear hb8; obtain ⟨y0, y1, y2, y3, y4, y5, y6, -⟩ := row7 HX8.out; obtain ⟨a0, a1, a2, a3, a4, a5, a6, z0, z1, z2, z3, z4, z5, z6⟩ := row7 HG8.out)
        have HPUT := Lib.hid (put7 HG8.out (.int .i64 k4) (.int .i32 r4) (.slice sa4 sn4 sc4) (.bool nt4) (.int .i64 l4) (.int .i64 h4) (.slice pa4 pn4 pc4))
        refine bodyPost_ret (v := .tuple #[.agg #[.int .i64 k4, .int .i32 r4, .slice sa4 sn4 sc4, .bool nt4, .int .i64 l4, .int .i64 h4, .slice pa4 pn4 pc4], .int .i64 0]) ?_ rfl ?_
        · rw [results_ct rfl]
          go_simp
        · show PrAns w R0 _ _
          rw [HR9.out]
          refine PrAns.okk ?_ (HFB.out _ _ HF.out HPUT.out.2)
          have h8 := ReAt.frF (Fr.of_below (fun _ => False) HB8.out) (fun _ _ h => h) x HRE6.out
          have hsz1 := HB8.out.size
          have hsz2 := HPUT.out.2.size
          have hX6 := heap_lt HX5.out
          exact ReAt.mono (fun k hk => ⟨by have := hk.1; omega, by have := hk.2; omega⟩) x (ReAt.frF HPUT.out.2 (fun k hk e => by have := hk.1; omega) x h8)
end Go.Proofs.Ytkjiobbkbhmijaa.U
