/-
  The contract of lengths.place.
-/
import Derived.Test.YtndlebopfojjeaaTLine
import Derived.Deep.RegionHeld3
import Derived.Deep.RegionWith
namespace Go.Proofs.Ytndlebopfojjeaa.U
open Go.RowKit
set_option linter.unusedVariables false
set_option linter.unusedSimpArgs false
set_option maxRecDepth 100000

theorem results_cell1 {fn : Func} {p : Tmp} {ty : TypeId} (h : fn.results = #[.cell p ty]) (tmps : Array Value) (P : Program) (w : World) :
    (results fn tmps).run P w = ((asAddr (tmps.getD p undef)).run P w).andThen fun a w₁ => (loadVar ty a).run P w₁ := by
  simp only [results, h]
  simp [Sem.run_bind, Result.andThen]

/-- a result's cell and a place's cell, just laid -/
def PB (w wr : World) (line col : Nat) : Prop :=
  wr.heap[w.heap.size]? = some (.cells #[.int .i64 0, .int .i64 0] 30 (0, 0)) ∧ wr.heap[w.heap.size + 1]? = some (.cells #[.int .i64 (line : Nat), .int .i64 (col : Nat)] 30 (0, 0)) ∧ Below w.heap.size w wr
theorem PB.below {w wr W : World} {line col : Nat} (h : PB w wr line col) (hb : Below wr.heap.size wr W) : PB w W line col :=
  ⟨(hb.block _ (heap_lt h.1)).trans h.1, (hb.block _ (heap_lt h.2.1)).trans h.2.1, h.2.2.trans (hb.mono h.2.2.size)⟩
theorem PB.drew {w wr : World} {line col : Nat} (h : PB w wr line col) : PB w wr.drew line col := ⟨h.1, h.2.1, h.2.2.drew⟩
theorem PB.alloc {w wr : World} {line col : Nat} (h : PB w wr line col) (o : Obj) : PB w (wr.alloc o) line col := h.below ((Below.refl _ _).alloc (Nat.le_refl _) o)
theorem PB.cells {w wr : World} {line col : Nat} (h : PB w wr line col) : wr.cell? ⟨w.heap.size + 1, 0, none⟩ = some (.int .i64 (line : Nat)) ∧ wr.cell? ⟨w.heap.size + 1, 1, none⟩ = some (.int .i64 (col : Nat)) ∧
    wr.frozen? ⟨w.heap.size + 1, 0, none⟩ = false ∧ wr.frozen? ⟨w.heap.size + 1, 1, none⟩ = false ∧ w.heap.size + 1 < wr.heap.size := ⟨cell_row h.2.1 0, cell_row h.2.1 1, frozen_row h.2.1 0, frozen_row h.2.1 1, heap_lt h.2.1⟩
theorem PB.set1 {w wr : World} {line col : Nat} (h : PB w wr line col) (c : Nat) : PB w (wr.setCell ⟨w.heap.size + 1, 1, none⟩ (.int .i64 (c : Nat))) line c :=
  ⟨(Below.heap_setCell _ _ _ _ (by simp)).trans h.1, heap_set h.2.1 1 _, h.2.2.setCell (by simp) _⟩
theorem PB.set0 {w wr : World} {line col : Nat} (h : PB w wr line col) (c : Nat) : PB w (wr.setCell ⟨w.heap.size + 1, 0, none⟩ (.int .i64 (c : Nat))) c col :=
  ⟨(Below.heap_setCell _ _ _ _ (by simp)).trans h.1, heap_set h.2.1 0 _, h.2.2.setCell (by simp) _⟩

/-- how the search for a place stands: so many lines and runes are gone, and fl is left -/
def PS (R : Nat × Nat) (fl : List Nat) (line col : Nat) : Prop := R = ((findP fl col).1 + line, (findP fl col).2) ∧ col < sizeN fl
theorem PS.skip {R : Nat × Nat} {b r : List Nat} {line col : Nat} (h : PS R (b ++ r) line col) (hc : sizeN b ≤ col) : PS R r (line + b.length) (col - sizeN b) := by
  obtain ⟨h1, h2⟩ := h
  rw [sizeN_append] at h2
  rw [findP_skip b r col hc] at h1
  refine ⟨?_, by omega⟩
  rw [h1]
  simp only [Prod.mk.injEq, and_true]
  omega
theorem PS.in_ {R : Nat × Nat} {b r : List Nat} {line col : Nat} (h : PS R (b ++ r) line col) (hc : col < sizeN b) : PS R b line col := by
  obtain ⟨h1, h2⟩ := h
  rw [findP_in b r col hc] at h1
  exact ⟨h1, hc⟩
theorem PS.stop {R : Nat × Nat} {a : Nat} {r : List Nat} {line col : Nat} (h : PS R (a :: r) line col) (hc : col ≤ a) : R = (line, col) := by
  obtain ⟨h1, h2⟩ := h
  rw [findP, if_pos hc] at h1
  simpa using h1
theorem PS.step {R : Nat × Nat} {a : Nat} {r : List Nat} {line col : Nat} (h : PS R (a :: r) line col) (hc : ¬ col ≤ a) : PS R r (line + 1) (col - (a + 1)) := by
  obtain ⟨h1, h2⟩ := h
  rw [sizeN_cons] at h2
  rw [findP, if_neg hc] at h1
  refine ⟨?_, by omega⟩
  rw [h1]
  simp only [Prod.mk.injEq, and_true]
  omega

set_option maxHeartbeats 4000000 in
theorem tplace_any (F : Nat → Prop) (bt : Nat) (a : Option Addr) (n c : Nat) (ps : List ((Option Addr × Nat) × List Nat)) (count m : Nat) (w : World) (h : LB w F bt a n c ps count) (hm : m < sizeN (lists ps).flatten) :
    Calls Try.prog 39 #[.pointer (some ⟨bt, 1, none⟩), .int .i64 m] w fun e w' => e = .returned (.agg #[.int .i64 ((findP (lists ps).flatten m).1 : Nat), .int .i64 ((findP (lists ps).flatten m).2 : Nat)]) ∧ Below w.heap.size w w' := by
  have hlt := h.lt
  have hfew := h.few
  have hcb := h.cntb
  have hsm := h.small
  have hN := h.plen
  have hcm : c ≤ 9223372036854775807 := by have := h.rd.2.2.1; unfold maxLen at this; omega
  obtain ⟨⟨RL, RC⟩, hR⟩ : ∃ R : Nat × Nat, findP (lists ps).flatten m = R := ⟨_, rfl⟩
  have HPS : Hid (PS (RL, RC) (lists ps).flatten 0 m) := ⟨by rw [hR]; rfl, hm⟩
  rw [hR]
  have hm2 : m ≤ 1099511627776 := by omega
  have H := Lib.hid h
  have HN := Lib.hid hN
  simp only
  clear h hR hm hN hsm
  go_enter Try.func39, Try.ntmps39
  go_wp2_with fail
  go_loopw [6] (fun v6 wr => ∃ k line col : Nat, v6 = .int .i64 k ∧ k ≤ n ∧ line ≤ 1099511627776 ∧ col ≤ 1099511627776 ∧ Hid (PS (RL, RC) ((lists ps).drop k).flatten line col ∧ line + ((lists ps).drop k).flatten.length = count) ∧ Hid (PB w wr line col)) (fun v6 _ => n - (intOf v6).toNat)
  case atStart => exact ⟨0, 0, m, rfl, Nat.zero_le _, Nat.zero_le _, hm2, ⟨HPS.out, by rw [List.drop_zero, H.out.cnt, Nat.zero_add]⟩, by
    refine ⟨?_, ?_, ((Below.refl _ w).alloc (Nat.le_refl _) _).alloc (by simp) _⟩
    · rw [Below.heap_alloc _ _ _ (by simp), heap_alloc_new]
    · have := heap_alloc_new (w.alloc (.cells #[.int .i64 0, .int .i64 0] 30)) (.cells #[.int .i64 0, .int .i64 (m : Nat)] 30)
      simpa using this⟩
  case round =>
    obtain ⟨k, line, col, rfl, hk, hline, hcol, hps, hpb⟩ := hrel
    have hb := hpb.out.2.2
    have hsz := hb.size
    have hkn : k < n := by
      by_cases e : k < n
      · exact e
      · have := hps.out.1.2
        rw [List.drop_eq_nil_of_le (by rw [lists_len, HN.out]; omega)] at this
        simp [sizeN] at this
    obtain ⟨p, hp⟩ : ∃ p, ps[k]? = some p := ⟨_, List.getElem?_eq_getElem (by have := HN.out; omega)⟩
    obtain ⟨b, off, rfl, hbl, d0, d1, hrd, hsm⟩ := H.out.get hb hp
    have hfl := flat_at (lists_at hp)
    rw [hfl] at hps
    obtain ⟨⟨ra, rc⟩, ls⟩ := p
    obtain ⟨x, hx⟩ : ∃ x, ls.length = x := ⟨_, rfl⟩
    obtain ⟨y, hy⟩ : ∃ y, ls.sum = y := ⟨_, rfl⟩
    have hsn := sizeN_sum ls
    rw [hx, hy] at hsn
    simp only at hps hsm
    rw [hx, hy] at hsm
    have HX := Lib.hid hx
    have HSN := Lib.hid hsn
    have HG : Hid (∀ W l' c', Hid (PB w W l' c') → W.cell? ⟨b, off + k * 2, none⟩ = some (.slice ra x rc) ∧ W.cell? ⟨b, off + k * 2 + 1, none⟩ = some (.int .i64 (y : Nat)) ∧ b < W.heap.size ∧ W.cell? ⟨bt, 1, none⟩ = some (.slice (some ⟨b, off, none⟩) n c) ∧ bt < W.heap.size ∧ RdN W ra x rc ls ∧
        W.cell? ⟨w.heap.size + 1, 0, none⟩ = some (.int .i64 (l' : Nat)) ∧ W.cell? ⟨w.heap.size + 1, 1, none⟩ = some (.int .i64 (c' : Nat)) ∧ W.frozen? ⟨w.heap.size + 1, 0, none⟩ = false ∧ W.frozen? ⟨w.heap.size + 1, 1, none⟩ = false ∧ w.heap.size + 1 < W.heap.size) := by
      intro W l' c' hW
      have hbW := hW.out.2.2
      obtain ⟨b', off', e1, e2, e3, e4, e5, e6⟩ := H.out.get hbW hp
      cases e1
      simp only at e3 e4 e5
      rw [hx] at e3 e5
      rw [hy] at e4
      have := hbW.size
      exact ⟨e3, e4, by omega, (hbW.cell (p := ⟨bt, 1, none⟩) hlt).trans H.out.c1, by omega, e5, hW.out.cells⟩
    clear hx hy hsn hfl hp hrd d0 d1
    have i1 : (0 : Int) ≤ (k : Int) := by omega
    have i2 : (k : Int) < (n : Int) := by omega
    by_cases hcs : y + x ≤ col
    · have t1 : ((y + x : Nat) : Int) ≤ (col : Int) := by omega
      obtain ⟨d0, d1, hblw, hbt, hbtw, -, q0, q1, z0, z1, hpl⟩ := HG.out wr line col hpb
      go_upto_region 3 with fail
      go_cut [21] (fun v21 wx => v21 = .bool true ∧ Hid (PB w wx line col))
      case first =>
        go_region_with (go_at_call 56; refine (size_any _ _ _ _ _ (by omega) (by omega)).mono ?_; rintro e w' ⟨rfl, rfl⟩)
        all_goals
          go_wp2_with fail
          go_meet
          exact ⟨congrArg Value.bool (decide_eq_true (by omega)), by first | exact hpb.out.drew.alloc _ | exact (hpb.out.alloc _).drew⟩
      case rest =>
        obtain ⟨rfl, hpc⟩ := hcut
        clear d0 d1 hblw hbt hbtw q0 q1 z0 z1 hpl
        obtain ⟨d0, d1, hblw, hbt, hbtw, -, q0, q1, z0, z1, hpl⟩ := HG.out wc line col hpc
        obtain ⟨cl, hcl⟩ : ∃ cl, col - (y + x) = cl := ⟨_, rfl⟩
        have hwrap : IntKind.i64.wrap ((col : Int) - ((y : Int) + (x : Int))) = (cl : Int) := by rw [IntKind.wrap_i64]; omega
        have HCL := Lib.hid hcl
        have hclb : cl ≤ 1099511627776 := by omega
        clear hcl
        go_wp2_with fail
        go_upto_region 4 with fail
        go_cut [22] (fun v22 wx => Hid (PB w wx line cl))
        case first =>
          go_region_with (go_at_call 56; refine (size_any _ _ _ _ _ (by omega) (by omega)).mono ?_; rintro e w' ⟨rfl, rfl⟩)
          all_goals
            go_wp2_with fail
            go_meet
            exact ((hpc.out.set1 cl).alloc _).drew
        case rest =>
          clear d0 d1 hblw hbt hbtw q0 q1 z0 z1 hpl hwrap
          obtain ⟨d0, d1, hblw, hbt, hbtw, -, q0, q1, z0, z1, hpl⟩ := HG.out wc line cl hcut
          have hlb : line + x ≤ 1099511627776 := by
            have := hps.out.2
            rw [List.length_append, HX.out] at this
            omega
          have hwrap : IntKind.i64.wrap ((line : Int) + (x : Int)) = (line : Int) + (x : Int) := by rw [IntKind.wrap_i64]; omega
          have HNX : Hid (PS (RL, RC) ((lists ps).drop (k + 1)).flatten (line + x) cl ∧ line + x + ((lists ps).drop (k + 1)).flatten.length = count) := by
            obtain ⟨e1, e2⟩ := hps.out
            have := e1.skip (by rw [HSN.out]; exact hcs)
            rw [HX.out, HSN.out, HCL.out] at this
            rw [List.length_append, HX.out] at e2
            exact ⟨this, by omega⟩
          go_wp2_with fail
          go_upto_region 5 with fail
          go_cut [6] (fun v6 wx => v6 = .int .i64 k ∧ Hid (PB w wx (line + x) cl))
          case first =>
            go_region
            all_goals
              go_wp2_with fail
              go_meet
              exact ⟨rfl, by first | exact (hcut.out.set0 (line + x)).drew | exact hcut.out.drew.set0 (line + x)⟩
          case rest =>
            obtain ⟨rfl, hpe⟩ := hcut
            clear d0 d1 hblw hbt hbtw q0 q1 z0 z1 hpl hwrap
            go_wp2_with fail
            go_roundw
            case rel => exact ⟨k + 1, line + x, cl, by go_num, by omega, hlb, hclb, HNX, hpe⟩
            case measure => simp [intOf]; omega
    · have t1 : ¬ ((y : Int) + (x : Int) ≤ (col : Int)) := by omega
      obtain ⟨d0, d1, hblw, hbt, hbtw, -, q0, q1, z0, z1, hpl⟩ := HG.out wr line col hpb
      have hlb : line + x ≤ 1099511627776 := by
        have := hps.out.2
        rw [List.length_append, HX.out] at this
        omega
      have HIN : Hid (PS (RL, RC) ls line col) := hps.out.1.in_ (by rw [HSN.out]; omega)
      go_upto_region 3 with fail
      go_cut [21] (fun v21 wx => v21 = .bool false ∧ Hid (PB w wx line col))
      case first =>
        go_region_with (go_at_call 56; refine (size_any _ _ _ _ _ (by omega) (by omega)).mono ?_; rintro e w' ⟨rfl, rfl⟩)
        all_goals
          go_wp2_with fail
          go_meet
          exact ⟨congrArg Value.bool (decide_eq_false (by omega)), by first | exact hpb.out.drew.alloc _ | exact (hpb.out.alloc _).drew⟩
      case rest =>
        obtain ⟨rfl, hpc⟩ := hcut
        clear d0 d1 hblw hbt hbtw q0 q1 z0 z1 hpl hpb hps hb hsz t1
        obtain ⟨d0, d1, hblw, hbt, hbtw, -, q0, q1, z0, z1, hpl⟩ := HG.out wc line col hpc
        go_wp2_with fail
        clear d0 d1 hblw hbt hbtw q0 q1 z0 z1 hpl
        go_loopw [8, 58] (fun v8 v58 wr => ∃ j line col : Nat, v58 = .int .i64 j ∧ j ≤ x ∧ line ≤ 1099511627776 ∧ col ≤ 1099511627776 ∧ Hid (PS (RL, RC) (ls.drop j) line col) ∧ Hid (PB w wr line col) ∧ line + (x - j) ≤ 1099511627776) (fun _ v58 _ => x - (intOf v58).toNat)
        case atStart => exact ⟨0, line, col, rfl, Nat.zero_le _, hline, hcol, HIN, hpc, by omega⟩
        case round =>
          obtain ⟨j, line, col, rfl, hj, hline, hcol, hin, hpd, hlx⟩ := hrel
          have hjx : j < x := by
            by_cases e : j < x
            · exact e
            · have := hin.out.2
              rw [List.drop_eq_nil_of_le (by have := HX.out; omega)] at this
              simp [sizeN] at this
          obtain ⟨z, hz⟩ : ∃ z, ls[j]? = some z := ⟨_, List.getElem?_eq_getElem (by have := HX.out; omega)⟩
          have hdr : ls.drop j = z :: ls.drop (j + 1) := by
            obtain ⟨h1, h2⟩ := List.getElem?_eq_some_iff.1 hz
            rw [List.drop_eq_getElem_cons h1, h2]
          rw [hdr] at hin
          obtain ⟨-, -, -, -, -, hrd, q0, q1, z0, z1, hpl⟩ := HG.out wr line col hpd
          obtain ⟨rb, ro, rfl, hrl, hrc⟩ := hrd.at_ (by omega)
          have cz := hrc j z hz
          have r0 : wr.cell? ⟨w.heap.size, 0, none⟩ = some (.int .i64 0) := cell_row hpd.out.1 0
          have r1 : wr.cell? ⟨w.heap.size, 1, none⟩ = some (.int .i64 0) := cell_row hpd.out.1 1
          have rz0 := frozen_row hpd.out.1 0
          have rz1 := frozen_row hpd.out.1 1
          have hrl2 := heap_lt hpd.out.1
          clear hrc hrd hdr hz
          by_cases hcz : col ≤ z
          · have e := hin.out.stop hcz
            cases e
            have HBW := Lib.hid hpd.out.2.2
            have hcz' : (RC : Int) ≤ (z : Int) := by omega
            clear hin hpd
            go_wp2_with fail
            (try simp only [Exit.inBlock, Exit.then])
            refine bodyPost_ret (v := .agg #[.int .i64 (RL : Nat), .int .i64 (RC : Nat)]) ?_ rfl ⟨rfl, ?_⟩
            · rw [results_cell1 rfl]
              go_simp
            · exact (HBW.out.setCell (by simp) _).setCell (by simp) _
          · have HST : Hid (PS (RL, RC) (ls.drop (j + 1)) (line + 1) (col - (z + 1))) := hin.out.step hcz
            obtain ⟨cl, hcl⟩ : ∃ cl, col - (z + 1) = cl := ⟨_, rfl⟩
            rw [hcl] at HST
            have HP2 : Hid (PB w ((wr.setCell ⟨w.heap.size + 1, 1, none⟩ (.int .i64 (cl : Nat))).setCell ⟨w.heap.size + 1, 0, none⟩ (.int .i64 ((line + 1 : Nat) : Int))) (line + 1) cl) := (hpd.out.set1 cl).set0 (line + 1)
            have hcz' : ¬ ((col : Int) ≤ (z : Int)) := by omega
            have hsub : (col : Int) - ((z : Int) + 1) = (cl : Int) := by omega
            have hclb : cl ≤ 1099511627776 := by omega
            have hzb : z ≤ 1099511627776 := by omega
            have HSUB := Lib.hid hsub
            have hl2 : line + 1 ≤ 1099511627776 := by omega
            clear hin hpd hcl hsub
            go_wp2_with fail
            go_roundw
            case rel => exact ⟨j + 1, line + 1, cl, by go_num, by omega, hl2, hclb, HST, by show PB _ _ _ _; simpa [HSUB.out] using HP2.out, by omega⟩
            case measure => simp [intOf]; omega
end Go.Proofs.Ytndlebopfojjeaa.U
