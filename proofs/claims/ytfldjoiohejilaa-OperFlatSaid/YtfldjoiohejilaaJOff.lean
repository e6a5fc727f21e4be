/-
  Picked by wip/tools/pick.py: what other layers use of lines, rows and their readings.
-/
import Derived.Test.YtfldjoiohejilaaChecked
import Derived.Test.YtfldjoiohejilaaUBase
import Derived.Test.YtfldjoiohejilaaPFr
import Derived.Test.YtfldjoiohejilaaNPure
import Derived.Test.YtfldjoiohejilaaJBase
import Derived.RegionTactic
import Derived.Deep.RegionWith
import Derived.Deep.RegionLaw
import Derived.Deep.QuietTactic
import Derived.BigQuiet
import Derived.Deep.RegionHeld3
import Derived.BigRegion
import Derived.Deep.DeepCutAuto
import Derived.StillTailTactics
namespace Go.Proofs.Ytfldjoiohejilaa.U
open Go.RowKit
set_option linter.unusedVariables false
set_option linter.unusedSimpArgs false
set_option maxRecDepth 100000

/-- a row, cut at a place -/
theorem row_cut {L : List (List Int)} {i c : Nat} {x : List Int} (hx : L[i]? = some x) (hc : c ≤ x.length) :
    (joinL L).take (sizeN ((lens L).take i) + c) = joinE (L.take i) ++ x.take c ∧ (joinL L).drop (sizeN ((lens L).take i) + c) ++ [10] = x.drop c ++ 10 :: joinE (L.drop (i + 1)) := by
  have hi : i < L.length := (List.getElem?_eq_some_iff.1 hx).1
  have hxe : L[i] = x := (List.getElem?_eq_some_iff.1 hx).2
  have hne : L ≠ [] := by intro e; subst e; simp at hi
  have e : joinE L = (joinE (L.take i) ++ x.take c) ++ (x.drop c ++ 10 :: joinE (L.drop (i + 1))) := by
    conv => lhs; rw [← List.take_append_drop i L, List.drop_eq_getElem_cons hi, joinE_append, joinE_cons, hxe]
    conv => lhs; rw [← List.take_append_drop c x]
    simp only [List.append_assoc]
  have hl : (joinE (L.take i) ++ x.take c).length = sizeN ((lens L).take i) + c := by rw [List.length_append, joinE_len, lens_take, List.length_take, Nat.min_eq_left hc]
  rw [joinE_joinL hne] at e
  have hlen := congrArg List.length e
  simp only [List.length_append, List.length_cons, List.length_nil] at hlen
  rw [List.length_append] at hl
  have hle : sizeN ((lens L).take i) + c ≤ (joinL L).length := by
    have : (x.drop c ++ 10 :: joinE (L.drop (i + 1))).length ≥ 1 := by simp; omega
    simp only [List.length_append, List.length_cons] at this
    omega
  constructor
  · have := congrArg (List.take (sizeN ((lens L).take i) + c)) e
    rw [List.take_append_of_le_length hle, List.take_left' (by rw [List.length_append]; exact hl)] at this
    exact this
  · have := congrArg (List.drop (sizeN ((lens L).take i) + c)) e
    rw [List.drop_append_of_le_length hle, List.drop_left' (by rw [List.length_append]; exact hl)] at this
    exact this
theorem off_le {L : List (List Int)} {i c : Nat} {x : List Int} (hx : L[i]? = some x) (hc : c ≤ x.length) : sizeN ((lens L).take i) + c ≤ (joinL L).length := by
  have h := congrArg List.length (row_cut hx hc).1
  rw [List.length_take, List.length_append, joinE_len, lens_take, List.length_take, Nat.min_eq_left hc] at h
  omega
def hasP (L : List (List Int)) (i c : Int) : Bool := decide (0 ≤ i) && (decide (i < L.length) && (decide (0 ≤ c) && decide (c ≤ (L.getD i.toNat []).length)))
theorem hasP_iff {L : List (List Int)} {i c : Int} : hasP L i c = true ↔ ∃ (k d : Nat) (x : List Int), i = k ∧ c = d ∧ L[k]? = some x ∧ d ≤ x.length := by
  unfold hasP
  simp only [Bool.and_eq_true, decide_eq_true_eq]
  constructor
  · rintro ⟨h1, h2, h3, h4⟩
    refine ⟨i.toNat, c.toNat, L[i.toNat]'(by omega), by omega, by omega, List.getElem?_eq_getElem _, ?_⟩
    rw [List.getD_eq_getElem?_getD, List.getElem?_eq_getElem (by omega), Option.getD_some] at h4
    omega
  · rintro ⟨k, d, x, rfl, rfl, hx, hd⟩
    have := (List.getElem?_eq_some_iff.1 hx).1
    refine ⟨by omega, by omega, by omega, ?_⟩
    rw [Int.toNat_natCast, List.getD_eq_getElem?_getD, hx, Option.getD_some]
    omega
def offN (L : List (List Int)) (k d : Nat) : Nat := sizeN ((lens L).take k) + d
def offR (L : List (List Int)) (i c : Int) : Int × Int := if hasP L i c then ((offN L i.toNat c.toNat : Nat), 0) else (0, 2)
/-- the document's text: its block, and lines in other blocks -/
def RX (P : Nat → Prop) (w : World) (bx : Nat) (L : List (List Int)) : Prop :=
  ∃ la n lc, w.heap[bx]? = some (.cells #[.slice la n lc] 60 (0, 0)) ∧ RdL (fun k => P k ∧ k ≠ bx) w la n lc L ∧ P bx
set_option maxHeartbeats 4000000 in
theorem rthere_any (F : Nat → Prop) (a : Option Addr) (n c : Nat) (L : List (List Int)) (i d : Int) (w : World) (h : RdL F w a n c L) (hi : i64b i) (hd : i64b d) :
    Calls Try.prog 75 #[.slice a n c, .agg #[.int .i64 i, .int .i64 d]] w fun e w' => e = .returned (.bool (hasP L i d)) ∧ Below w.heap.size w w' := by
  have hl := h.len
  have hsm := h.small
  obtain ⟨g, hgs⟩ : ∃ g, w.heap.size = g := ⟨_, rfl⟩
  obtain ⟨wb, hwb⟩ : ∃ wb, w.alloc (.cells #[.int .i64 i, .int .i64 d] 24) = wb := ⟨_, rfl⟩
  have hB : Below g w wb := by rw [← hwb]; exact (Below.refl _ _).alloc (by omega) _
  have hg : wb.heap[g]? = some (.cells #[.int .i64 i, .int .i64 d] 24 (0, 0)) := by rw [← hwb, ← hgs]; exact heap_alloc_new w _
  have a0 := cell_row hg 0
  have a1 := cell_row hg 1
  have lg := heap_lt hg
  have HWB := Lib.hid hwb
  have HBg := Lib.hid hB
  have HB : Hid (Below w.heap.size w wb) := by show Below _ _ _; rw [hgs]; exact hB
  have hh : hasP L i d = (decide (0 ≤ i) && (decide (i < n) && (decide (0 ≤ d) && decide (d ≤ (L.getD i.toNat []).length)))) := by unfold hasP; rw [hl]
  rw [hh]
  have H := Lib.hid h
  have HLL := Lib.hid hl
  clear hwb hg hB h hh hl
  by_cases h1 : 0 ≤ i
  · have d1 : decide (0 ≤ i) = true := by simpa using h1
    by_cases h2 : i < n
    · have d2 : decide (i < (n : Int)) = true := by simpa using h2
      by_cases h3 : 0 ≤ d
      · have d3 : decide (0 ≤ d) = true := by simpa using h3
        obtain ⟨k, rfl⟩ : ∃ k : Nat, i = k := ⟨i.toNat, by omega⟩
        obtain ⟨x, hx⟩ : ∃ x, L[k]? = some x := ⟨_, List.getElem?_eq_getElem (by have := HLL.out; omega)⟩
        obtain ⟨b, off, ra, rc, rfl, hb, _, hc, _, _⟩ := H.out.get (by have := HB.out; exact this) hx
        have hbw : b < wb.heap.size := by have := HB.out.size; omega
        rw [d1, d2, d3, Int.toNat_natCast, List.getD_eq_getElem?_getD, hx, Option.getD_some]
        simp only [Bool.true_and]
        obtain ⟨y, hy⟩ : ∃ y, x.length = y := ⟨_, rfl⟩
        rw [hy] at hc ⊢
        have h2' : k < n := by omega
        clear hx hy H HLL
        by_cases h4 : d ≤ (y : Int)
        · have d4 : decide (d ≤ (y : Int)) = true := by simpa using h4
          rw [d4]
          go_enter Try.func75, Try.ntmps75
          go_upto_region 1 with fail
          (try rw [hgs]); (try rw [HWB.out])
          go_quiet (fail)
          go_wp2_with fail
          go_ret
          first | exact ⟨rfl, bdrewN HB.out _⟩ | exact ⟨rfl, bdrewN HBg.out _⟩
        · have d4 : decide (d ≤ (y : Int)) = false := by simpa using h4
          rw [d4]
          go_enter Try.func75, Try.ntmps75
          go_upto_region 1 with fail
          (try rw [hgs]); (try rw [HWB.out])
          go_quiet (fail)
          go_wp2_with fail
          go_ret
          first | exact ⟨rfl, bdrewN HB.out _⟩ | exact ⟨rfl, bdrewN HBg.out _⟩
      · have d3 : decide (0 ≤ d) = false := by simpa using h3
        rw [d1, d2, d3]
        clear H HLL
        go_enter Try.func75, Try.ntmps75
        go_upto_region 1 with fail
        (try rw [hgs]); (try rw [HWB.out])
        go_quiet (fail)
        go_wp2_with fail
        go_ret
        first | exact ⟨rfl, bdrewN HB.out _⟩ | exact ⟨rfl, bdrewN HBg.out _⟩
    · have d2 : decide (i < (n : Int)) = false := by simpa using h2
      rw [d1, d2]
      clear H HLL
      go_enter Try.func75, Try.ntmps75
      go_upto_region 1 with fail
      (try rw [hgs]); (try rw [HWB.out])
      go_quiet (fail)
      go_wp2_with fail
      go_ret
      first | exact ⟨rfl, bdrewN HB.out _⟩ | exact ⟨rfl, bdrewN HBg.out _⟩
  · have d1 : decide (0 ≤ i) = false := by simpa using h1
    rw [d1]
    clear H HLL
    go_enter Try.func75, Try.ntmps75
    go_upto_region 1 with fail
    (try rw [hgs]); (try rw [HWB.out])
    go_quiet (fail)
    go_wp2_with fail
    go_ret
    first | exact ⟨rfl, bdrewN HB.out _⟩ | exact ⟨rfl, bdrewN HBg.out _⟩
set_option maxHeartbeats 4000000 in
theorem roffset_any (P : Nat → Prop) (bx : Nat) (L : List (List Int)) (i d : Int) (w : World) (h : RX P w bx L) (hs : sizeN (lens L) ≤ 1048576) (hi : i64b i) (hd : i64b d) :
    Calls Try.prog 34 #[.pointer (some ⟨bx, 0, none⟩), .agg #[.int .i64 i, .int .i64 d]] w fun e w' => e = .returned (.tuple #[.int .i64 (offR L i d).1, .int .i64 (offR L i d).2]) ∧ Below w.heap.size w w' := by
  obtain ⟨la, n, lc, hbx, hr, _⟩ := h
  have hl := hr.len
  have hsm := hr.small
  obtain ⟨g, hgs⟩ : ∃ g, w.heap.size = g := ⟨_, rfl⟩
  obtain ⟨wb, hwb⟩ : ∃ wb, w.alloc (.cells #[.int .i64 i, .int .i64 d] 24) = wb := ⟨_, rfl⟩
  have hB : Below g w wb := by rw [← hwb]; exact (Below.refl _ _).alloc (by omega) _
  have hg : wb.heap[g]? = some (.cells #[.int .i64 i, .int .i64 d] 24 (0, 0)) := by rw [← hwb, ← hgs]; exact heap_alloc_new w _
  have hB0 : Below w.heap.size w wb := by rw [hgs]; exact hB
  have hbx2 := (hB0.block bx (heap_lt hbx)).trans hbx
  have HA : Hid (∀ W, Below wb.heap.size wb W → W.cell? ⟨g, 0, none⟩ = some (.int .i64 i) ∧ W.cell? ⟨g, 1, none⟩ = some (.int .i64 d) ∧ W.cell? ⟨bx, 0, none⟩ = some (.slice la n lc) ∧ g < W.heap.size ∧ bx < W.heap.size ∧ Below g w W) := by
    intro W hW
    have q1 := (hW.block g (heap_lt hg)).trans hg
    have q2 := (hW.block bx (heap_lt hbx2)).trans hbx2
    exact ⟨cell_row q1 0, cell_row q1 1, cell_row q2 0, heap_lt q1, heap_lt q2, hB.trans (hW.mono (by have := heap_lt hg; omega))⟩
  have HT : Hid (∀ W, Below wb.heap.size wb W → Calls Try.prog 75 #[.slice la n lc, .agg #[.int .i64 i, .int .i64 d]] W fun e w' => e = .returned (.bool (hasP L i d)) ∧ Below W.heap.size W w') := fun W hW =>
    rthere_any _ la n lc L i d W ((hr.below hB0).below hW) hi hd
  have H := Lib.hid (hr.below hB0)
  have HLL := Lib.hid hl
  have HWB := Lib.hid hwb
  have HGS := Lib.hid hgs
  obtain ⟨a0, a1, a2, lg, lb, _⟩ := HA.out wb (Below.refl _ _)
  unfold i64b at hi hd
  clear hwb hg hB hB0 hbx2 hbx hr hl
  go_enter Try.func34, Try.ntmps34
  go_upto_region 1 with fail
  (try rw [HWB.out])
  go_cut [14] (fun v14 wx => v14 = .bool (!hasP L i d) ∧ Hid (Below wb.heap.size wb wx))
  case first =>
    go_region_with (go_at_call 75; refine (HT.out _ (by first | exact Below.refl _ _ | exact (Below.refl _ _).drew)).mono ?_; rintro e w1 ⟨rfl, hb⟩)
    all_goals
      go_wp2_with fail
      go_meet
      first
        | exact ⟨rfl, hb⟩
        | exact ⟨rfl, hb.drew⟩
        | exact ⟨rfl, (Below.refl _ _).drew.trans hb⟩
        | exact ⟨rfl, ((Below.refl _ _).drew.trans hb).drew⟩
  case rest =>
    obtain ⟨rfl, hcb⟩ := hcut
    obtain ⟨b0, b1, b2, mg, mb, hbel⟩ := HA.out wc hcb.out
    have HBEL := Lib.hid hbel
    clear a0 a1 a2 lg lb HT HA hbel
    cases hh : hasP L i d with
    | false =>
      have HOFF : Hid (offR L i d = (0, 2)) := by show _ = _; unfold offR; rw [hh]; rfl
      go_wp2_with fail
      go_ret2
      exact ⟨by rw [HOFF.out]; rfl, by first | exact HBEL.out | exact HGS.out ▸ HBEL.out | (rw [HGS.out]; exact HBEL.out)⟩
    | true =>
      obtain ⟨k, m, x, rfl, rfl, hx, hm⟩ := hasP_iff.1 hh
      have hkn : k < L.length := (List.getElem?_eq_some_iff.1 hx).1
      have hso := off_le hx hm
      have hjl := joinL_len_le L
      obtain ⟨O, hO⟩ : ∃ O, offN L k m = O := ⟨_, rfl⟩
      have HO : Hid (sizeN (lens (L.take k)) + m = O) := by rw [lens_take]; exact hO
      have hOb : O ≤ 1048576 := by unfold offN at hO; omega
      have HSB : Hid (∀ q, q ≤ k → sizeN (lens (L.take q)) + m ≤ O) := by
        intro q hq
        have h1 := size_take_le (L.take k) q
        rw [List.take_take, Nat.min_eq_left hq] at h1
        have := HO.out
        omega
      have HOFF : Hid (offR L (k : Nat) (m : Nat) = ((O : Int), 0)) := by show _ = _; unfold offR; rw [hh, if_pos rfl, Int.toNat_natCast, Int.toNat_natCast, hO]
      clear hx hm hO hso hjl hh
      go_wp2_with fail
      go_loop [6, 7] (fun v6 v7 => ∃ q s : Nat, v7 = .int .i64 q ∧ v6 = .int .i64 s ∧ q ≤ k ∧ s ≤ 1048576 ∧ Hid (s = sizeN (lens (L.take q)) + m)) (fun _ v7 => k - (intOf v7).toNat)
      case atStart => exact ⟨0, m, rfl, rfl, Nat.zero_le _, by have := HSB.out 0 (Nat.zero_le _); omega, by simp [Hid, lens, sizeN_nil]⟩
      case round =>
        obtain ⟨q, s, rfl, rfl, hq, hsb, hse⟩ := hrel
        by_cases hlt : q < k
        · obtain ⟨y, hy⟩ : ∃ y, L[q]? = some y := ⟨_, List.getElem?_eq_getElem (by omega)⟩
          obtain ⟨b, off, ra, rc, rfl, hb, _, hc, _, _⟩ := H.out.get hcb.out hy
          have hbw : b < wc.heap.size := by have := hcb.out.size; omega
          have h1 := size_take hy
          have h2 := HSB.out (q + 1) (by omega)
          have hqn : q < n := by have := HLL.out; omega
          obtain ⟨z, hz⟩ : ∃ z, y.length = z := ⟨_, rfl⟩
          rw [hz] at hc h1
          have HN : Hid (s + (z + 1) = sizeN (lens (L.take (q + 1))) + m) := by show _ = _; have := hse.out; omega
          have hs2 : s + (z + 1) ≤ 1048576 := by have := HN.out; omega
          clear hy hz h1 h2 hse
          go_wp2_with fail
          go_round
          case rel => exact ⟨q + 1, s + (z + 1), by go_num, by go_num, by omega, hs2, HN⟩
          case measure => simp [intOf]; omega
        · obtain rfl : q = k := by omega
          have e : s = O := by have := hse.out; have := HO.out; omega
          subst e
          clear hse
          go_wp2_with fail
          go_ret2
          exact ⟨by rw [HOFF.out]; rfl, by first | exact HBEL.out | exact HGS.out ▸ HBEL.out | (rw [HGS.out]; exact HBEL.out)⟩
end Go.Proofs.Ytfldjoiohejilaa.U
