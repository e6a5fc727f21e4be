/-
  The program's reader: a whole pattern.
-/
import Derived.Test.YtkjiobbkbhmijaaRAlts
namespace Go.Proofs.Ytkjiobbkbhmijaa.U
open Go.RowKit
set_option linter.unusedVariables false
set_option linter.unusedSimpArgs false
set_option maxRecDepth 100000

def WhAns (w : World) (br : Nat) (p : List Int) (r : Rs (Re × Nat)) (e : Ending) (w' : World) : Prop :=
  match r with
  | .error c => e = errV c ∧ Fr (· = br) w w'
  | .ok (y, n') => ∃ v, e = .returned (ptV v y) ∧ PtAt (New w w') w' v y ∧ RdS w' br p [] n' 0 ∧ Fr (· = br) w w'
theorem WhAns_ok {w w' : World} {br : Nat} {p : List Int} {y : Re} {n' : Nat} {v : List Value} {e : Ending} (h : e = .returned (ptV v y)) (k : PtAt (New w w') w' v y ∧ RdS w' br p [] n' 0 ∧ Fr (· = br) w w') : WhAns w br p (.ok (y, n')) e w' := ⟨v, h, k⟩
def parseF (r : Rs (Re × List Int × Nat)) : Rs (Re × Nat) :=
  match r with
  | .error e => .error e
  | .ok (x, l, n) => if 0 < l.length then .error 10 else if 400 < x.sz then .error 12 else .ok (x, n)
theorem parse_eq (p : List Int) : parse p = parseF (alts 17 p 0 0) := rfl
set_option maxHeartbeats 1000000 in
theorem whole_any (br : Nat) (p : List Int) (w : World) (h : RdS w br p p 0 0) :
    Calls Try.prog 24 #[.pointer (some ⟨br, 0, none⟩)] w (WhAns w br p (parse p)) := by
  have hlt := h.lt
  obtain ⟨w1, hw1⟩ : ∃ w1, w.alloc (.cells #[.int .i64 0, .int .i32 0, .slice none 0 0, .bool false, .int .i64 0, .int .i64 0, .slice none 0 0, .int .i64 0] 55) = w1 := ⟨_, rfl⟩
  have hb1 : Below w.heap.size w w1 := by rw [← hw1]; exact bal _ _
  have hg1 : w1.heap[w.heap.size]? = some (.cells #[.int .i64 0, .int .i32 0, .slice none 0 0, .bool false, .int .i64 0, .int .i64 0, .slice none 0 0, .int .i64 0] 55 (0, 0)) := by rw [← hw1]; exact heap_alloc_new w _
  obtain ⟨r0, hr0⟩ : ∃ r0, parse p = r0 := ⟨_, rfl⟩
  rw [hr0]
  rw [parse_eq] at hr0
  have HALT : Hid (Calls Try.prog 27 #[.pointer (some ⟨br, 0, none⟩)] w1 (PaAns w1 br p 0 (alts 17 p 0 0))) := alts_all 16 0 rfl br p p 0 w1 (h.below hb1)
  have HG1 := Lib.hid hg1
  have HB1 := Lib.hid hb1
  have HW1 := Lib.hid hw1
  clear hg1 hb1 hw1 h
  cases ha : alts 17 p 0 0 with
  | error c =>
    rw [ha] at hr0 HALT
    have HRES : Hid (r0 = .error c) := by show _ = _; rw [← hr0]; rfl
    clear hr0 ha
    go_enter Try.func24, Try.ntmps24
    go_upto_region 1 with fail
    rw [HW1.out]
    go_wp2_with (go_at_call 27; refine HALT.out.mono ?_; intro e w4 h4; obtain ⟨he, hf4⟩ := h4; rw [errV] at he; subst he; have HF4 := Lib.hid hf4; clear hf4)
    refine ⟨rfl, ?_⟩
    rw [HRES.out]
    exact ⟨rfl, (Fr.of_below (· = br) HB1.out).trans HF4.out (fun _ _ h => h)⟩
  | ok q =>
    obtain ⟨x, l', n'⟩ := q
    rw [ha] at hr0 HALT
    have HRES : Hid (r0 = if 0 < l'.length then .error 10 else if 400 < x.sz then .error 12 else .ok (x, n')) := by show _ = _; rw [← hr0]; rfl
    have HOPEN : Hid (∀ e w4, PaAns w1 br p 0 (.ok (x, l', n')) e w4 → ∃ k4 r4 sa4 sn4 sc4 nt4 l4 h4 pa4 pn4 pc4 w5, e = .returned (.agg #[.int .i64 k4, .int .i32 r4, .slice sa4 sn4 sc4, .bool nt4, .int .i64 l4, .int .i64 h4, .slice pa4 pn4 pc4, .int .i64 ((min x.sz 401 : Nat) : Int)]) ∧ w4.alloc (.cells #[.int .i64 k4, .int .i32 r4, .slice sa4 sn4 sc4, .bool nt4, .int .i64 l4, .int .i64 h4, .slice pa4 pn4 pc4, .int .i64 ((min x.sz 401 : Nat) : Int)] 55) = w5 ∧ Hid (RdS w5 br p l' n' 0) ∧
        Hid (PtAt (fun k => w.heap.size < k ∧ k < w5.heap.size) w5 [.int .i64 k4, .int .i32 r4, .slice sa4 sn4 sc4, .bool nt4, .int .i64 l4, .int .i64 h4, .slice pa4 pn4 pc4] x ∧ Fr (fun k => k = br ∨ w.heap.size < k) w1 w5 ∧ w5.heap[w4.heap.size]? = some (.cells #[.int .i64 k4, .int .i32 r4, .slice sa4 sn4 sc4, .bool nt4, .int .i64 l4, .int .i64 h4, .slice pa4 pn4 pc4, .int .i64 ((min x.sz 401 : Nat) : Int)] 55 (0, 0)) ∧ w.heap.size < w4.heap.size)) := by
      rintro e w4 ⟨v, rfl, h1, h2, h3⟩
      obtain ⟨k4, r4, sa4, sn4, sc4, nt4, l4, h4, pa4, pn4, pc4, rfl⟩ := h1.rev7
      have hb := bal w4 (.cells #[.int .i64 k4, .int .i32 r4, .slice sa4 sn4 sc4, .bool nt4, .int .i64 l4, .int .i64 h4, .slice pa4 pn4 pc4, .int .i64 ((min x.sz 401 : Nat) : Int)] 55)
      have hz1 := heap_lt HG1.out
      have hz4 := h3.size
      have hz5 := hb.size
      exact ⟨k4, r4, sa4, sn4, sc4, nt4, l4, h4, pa4, pn4, pc4, _, rfl, rfl, h2.below hb, (h1.frF (Fr.of_below (fun _ => False) hb) (fun _ _ h => h)).mono (fun k hk => ⟨by have := hk.1; omega, by have := hk.2; omega⟩), (h3.mono (fun _ _ h => Or.inl h)).trans (Fr.of_below (fun _ => False) hb) (fun _ _ h => h.elim), heap_alloc_new w4 _, by omega⟩
    clear hr0 ha
    go_enter Try.func24, Try.ntmps24
    go_upto_region 1 with fail
    rw [HW1.out]
    go_upto_region 2 with (go_at_call 27; refine HALT.out.mono ?_; intro e w4 hh; obtain ⟨k4, r4, sa4, sn4, sc4, nt4, l4, h4, pa4, pn4, pc4, w5, he, hw5, HRD5, H5⟩ := HOPEN.out e w4 hh; subst he; clear hh)
    obtain ⟨pa, cap, i, e0, e1, -, -, -, hr, -, hdr, hi, -⟩ := HRD5.out.cells
    have hsm := hr.small
    obtain ⟨q, hq⟩ : ∃ q, p.length = q := ⟨_, rfl⟩
    have hll : l'.length = q - i := by rw [hdr, ← hq]; simp
    rw [hq] at e0 hi hsm
    obtain ⟨p0, p1, p2, p3, p4, p5, p6, p7, -, -, -, -, -, -, -, -⟩ := row8 H5.out.2.2.1
    have hzR : w5.heap[w.heap.size]? = some (.cells #[.int .i64 0, .int .i32 0, .slice none 0 0, .bool false, .int .i64 0, .int .i64 0, .slice none 0 0, .int .i64 0] 55 (0, 0)) := by
      rw [H5.out.2.1.block _ (heap_lt HG1.out) (fun e => by omega)]
      exact HG1.out
    obtain ⟨z, hz⟩ : ∃ z, min x.sz 401 = z := ⟨_, rfl⟩
    rw [hz] at p7
    have HZ := Lib.hid hz
    have hz4 := H5.out.2.2.2
    have HZR := Lib.hid hzR
    clear hr hdr hq hz hzR
    have HUP : Hid (∀ W : World, Fr (fun k => k = w.heap.size) w5 W → Fr (· = br) w W) := fun W hW => fr_up (((Fr.of_below (fun k => k = br ∨ w.heap.size ≤ k) HB1.out).trans H5.out.2.1 (fun k _ h => h.elim Or.inl (fun h => Or.inr (by omega)))).trans hW (fun k _ e => Or.inr (by omega)))
    by_cases hlz : 0 < l'.length
    · have HR2 : Hid (r0 = .error 10) := by show _ = _; rw [HRES.out, if_pos hlz]
      have g1 : (i : Int) < (q : Int) := by omega
      have g2 : decide ((i : Int) < (q : Int)) = true := by simp; omega
      clear HRES hlz hll hi
      go_quiet (fail)
      go_wp2
      refine ⟨rfl, ?_⟩
      rw [HR2.out]
      exact ⟨rfl, HUP.out _ (Fr.of_below _ (by first | exact Below.refl _ _ | exact bdrewN (Below.refl _ _) _))⟩
    · have hiq : i = q := by omega
      subst hiq
      have hl0 : l' = [] := List.eq_nil_of_length_eq_zero (by omega)
      have g1 : ¬ (i : Int) < (i : Int) := by omega
      have g2 : decide ((i : Int) < (i : Int)) = false := by simp
      by_cases hsz : 400 < x.sz
      · have HR2 : Hid (r0 = .error 12) := by show _ = _; rw [HRES.out, if_neg hlz, if_pos hsz]
        have g3 : (401 : Int) ≤ (z : Int) := by have := HZ.out; omega
        clear HRES hlz hll hi hsz hl0
        go_quiet (fail)
        go_wp2
        refine ⟨rfl, ?_⟩
        rw [HR2.out]
        exact ⟨rfl, HUP.out _ (Fr.of_below _ (by first | exact Below.refl _ _ | exact bdrewN (Below.refl _ _) _))⟩
      · have HR2 : Hid (r0 = .ok (x, n')) := by show _ = _; rw [HRES.out, if_neg hlz, if_neg hsz]
        have g3 : ¬ (401 : Int) ≤ (z : Int) := by have := HZ.out; omega
        have HL0 := Lib.hid hl0
        clear HRES hlz hll hi hsz hl0
        have hne : ¬ w4.heap.size = w.heap.size := by omega
        go_quiet (fail)
        obtain ⟨wd, hwd⟩ : ∃ wd, w5.drewN nq = wd := ⟨_, rfl⟩
        have hbd : Below w5.heap.size w5 wd := by rw [← hwd]; exact bdrewN (Below.refl _ _) _
        rw [hwd]
        have hd1 := (hbd.block _ (heap_lt H5.out.2.2.1)).trans H5.out.2.2.1
        obtain ⟨c0, c1, c2, c3, c4, c5, c6, c7, -, -, -, -, -, -, -, -⟩ := row8 hd1
        rw [HZ.out] at c7
        have hd2 := (hbd.block _ (heap_lt HZR.out)).trans HZR.out
        obtain ⟨b0, b1, b2, b3, b4, b5, b6, b7, z0, z1, z2, z3, z4, z5, z6, z7⟩ := row8 hd2
        have hput := put8 hd2 (.int .i64 k4) (.int .i32 r4) (.slice sa4 sn4 sc4) (.bool nt4) (.int .i64 l4) (.int .i64 h4) (.slice pa4 pn4 pc4) (.int .i64 (z : Nat))
        have hfn : ∀ W : World, Fr (fun j => j = w.heap.size) wd W → PtAt (New w W) W [.int .i64 k4, .int .i32 r4, .slice sa4 sn4 sc4, .bool nt4, .int .i64 l4, .int .i64 h4, .slice pa4 pn4 pc4] x ∧ RdS W br p l' n' 0 ∧ Fr (· = br) w W := by
          intro W hW
          have hfd : Fr (fun j => j = w.heap.size) w5 W := (Fr.of_below (fun j => j = w.heap.size) hbd).trans hW (fun _ _ h => h)
          exact ⟨(H5.out.1.frF hfd (fun k hk e => by have := hk.1; omega)).mono (fun k hk => ⟨by have := hk.1; omega, by have := hk.2; have := hfd.size; omega⟩), HRD5.out.fr hfd (fun k e => by omega), HUP.out _ hfd⟩
        have HEND := Lib.hid (hfn _ hput.2)
        clear hfn
        rw [HL0.out] at HEND
        clear hput hd1 hd2 hbd p0 p1 p2 p3 p4 p5 p6 p7
        have HWD := Lib.hid hwd
        clear hwd
        go_wp2
        refine bodyPost_ret (v := .agg #[.int .i64 k4, .int .i32 r4, .slice sa4 sn4 sc4, .bool nt4, .int .i64 l4, .int .i64 h4, .slice pa4 pn4 pc4, .int .i64 (z : Nat)]) ?_ rfl ?_
        · rw [results_cell1 rfl]
          go_simp
        · rw [HR2.out]
          exact WhAns_ok (v := [.int .i64 k4, .int .i32 r4, .slice sa4 sn4 sc4, .bool nt4, .int .i64 l4, .int .i64 h4, .slice pa4 pn4 pc4]) (by unfold ptV; rw [HZ.out]; rfl) HEND.out
end Go.Proofs.Ytkjiobbkbhmijaa.U
