/-
  The program's lacking.
  slices.Repeat of a row of runes.
  The program's pasteBlock, where the text would grow too large.
  The program's pasteBlock: what lies in memory while it puts a block in.
-/
import Derived.Test.YtfldjoiohejilaaKPasP
import Derived.Test.YtfldjoiohejilaaKCat
import Derived.Test.YtfldjoiohejilaaKPasC
import Derived.Test.YtfldjoiohejilaaKTake
import Derived.Test.YtfldjoiohejilaaKRep
namespace Go.Proofs.Ytfldjoiohejilaa.U
open Go.RowKit
set_option linter.unusedVariables false
set_option linter.unusedSimpArgs false
set_option maxRecDepth 100000

theorem lackR_far {L : List (List Int)} {q1 : Nat} (col k : Nat) (hk : L.length ≤ q1 + k) : ∀ j, lackR L q1 col (k + j) = lackR L q1 col k + j * (col + 1)
  | 0 => by simp
  | j + 1 => by
    show lackR L q1 col (k + j) + (if q1 + (k + j) < L.length then _ else col + 1) = _
    rw [lackR_far col k hk j, if_neg (by omega), Nat.add_mul, Nat.one_mul]
    omega
theorem lackR_near {L : List (List Int)} {q1 i : Nat} (col : Nat) {x : List Int} (hx : L[q1 + i]? = some x) : lackR L q1 col (i + 1) = lackR L q1 col i + (col - x.length) := by
  show lackR L q1 col i + (if q1 + i < L.length then _ else _) = _
  rw [if_pos (List.getElem?_eq_some_iff.1 hx).1, lnL_of hx]
theorem lackR_le (L : List (List Int)) (q1 col : Nat) : ∀ i, lackR L q1 col i ≤ i * (col + 1)
  | 0 => by simp [lackR]
  | i + 1 => by
    show lackR L q1 col i + (if q1 + i < L.length then _ else _) ≤ _
    have := lackR_le L q1 col i
    rw [Nat.add_mul, Nat.one_mul]
    split <;> omega
/-- the box of lacking's place -/
def LkS (w : World) (b q1 col : Nat) (W : World) : Prop := Below b w W ∧ W.cell? ⟨b, 0, none⟩ = some (.int .i64 (q1 : Nat)) ∧ W.cell? ⟨b, 1, none⟩ = some (.int .i64 (col : Nat)) ∧ b < W.heap.size
theorem lks_new (w : World) (q1 col : Nat) : LkS w w.heap.size q1 col (w.alloc (.cells #[.int .i64 (q1 : Nat), .int .i64 (col : Nat)] 24)) := ⟨bal _ _, by go_simp, by go_simp, by go_simp⟩
set_option maxHeartbeats 2000000 in
theorem klack_any (F : Nat → Prop) (a : Option Addr) (n c : Nat) (L : List (List Int)) (q1 col gn : Nat) (w : World) (h : RdL F w a n c L) (hq : q1 < n) (hn : n ≤ 1048576) (hcol : col ≤ 1048576) (hg : gn ≤ 1048576) :
    Calls Try.prog 88 #[.slice a n c, plV (q1, col), .int .i64 (gn : Nat)] w fun e w' => e = .returned (.int .i64 (lackR L q1 col gn : Nat)) ∧ Below w.heap.size w w' := by
  have hl := h.len
  obtain ⟨lb, lo, rfl, hlb, -, hrow⟩ := h.at_ (by omega)
  have hc : n ≤ c := by obtain ⟨vs, h1, -⟩ := h; exact h1.2.1
  obtain ⟨k, hk⟩ : ∃ k, min (q1 + gn) n - q1 = k := ⟨_, rfl⟩
  have hkg : k ≤ gn := by omega
  have hkn : q1 + k ≤ n := by omega
  have hmn : min ((q1 : Int) + (gn : Int)) (n : Int) = ((q1 + k : Nat) : Int) := by omega
  obtain ⟨j, hj⟩ : ∃ j, gn - k = j := ⟨_, rfl⟩
  have hgk : gn = k + j := by omega
  have hgj : (gn : Int) - (k : Int) = (j : Int) := by omega
  have hjn : 0 < j → n ≤ q1 + k := by omega
  have hfar : lackR L q1 col gn = lackR L q1 col k + j * (col + 1) := by
    by_cases h0 : j = 0
    · subst h0; rw [hgk]; simp
    · rw [hgk]; exact lackR_far col k (by have := hjn (by omega); omega) j
  obtain ⟨Z, hZ⟩ : ∃ Z, j * (col + 1) = Z := ⟨_, rfl⟩
  rw [hZ] at hfar
  have hZi : (j : Int) * ((col : Int) + 1) = (Z : Int) := by rw [← hZ]; push_cast; rfl
  have hZb : Z ≤ 1099512676352 := by
    rw [← hZ]
    exact Nat.le_trans (Nat.mul_le_mul (by omega : j ≤ 1048576) (by omega : col + 1 ≤ 1048577)) (by decide)
  have hlb' : ∀ i, i ≤ k → lackR L q1 col i ≤ 1099512676352 := fun i hi => Nat.le_trans (lackR_le L q1 col i) (Nat.le_trans (Nat.mul_le_mul (by omega : i ≤ 1048576) (by omega : col + 1 ≤ 1048577)) (by decide))
  have HLB := Lib.hid hlb'
  have HF := Lib.hid hfar
  have HROW := Lib.hid hrow
  have HL := Lib.hid hl
  have hkq : (q1 : Int) ≤ ((q1 + k : Nat) : Int) := by omega
  have hkc : ((q1 + k : Nat) : Int) ≤ (c : Int) := by omega
  obtain ⟨e1, he1⟩ : ∃ e1, q1 + k = e1 := ⟨_, rfl⟩
  rw [he1] at hmn hkq hkc
  have hek : (e1 : Int) - (q1 : Int) = (k : Int) := by omega
  have hek2 : e1 - q1 = k := by omega
  have hP := lks_new w q1 col
  obtain ⟨b, hbe⟩ : ∃ b, w.heap.size = b := ⟨_, rfl⟩
  rw [hbe] at hP
  obtain ⟨wb, hwb⟩ : ∃ wb, w.alloc (.cells #[.int .i64 (q1 : Nat), .int .i64 (col : Nat)] 24) = wb := ⟨_, rfl⟩
  rw [hwb] at hP
  obtain ⟨hB, p0, p1, pl⟩ := hP
  have HB := Lib.hid hB
  have HBE := Lib.hid hbe
  have HW := Lib.hid hwb
  rw [hbe]
  have hcell : ∀ i x, L[q1 + i]? = some x → ∃ ra rc, wb.cell? ⟨lb, lo + q1 + i, none⟩ = some (.slice ra x.length rc) := by
    intro i x hx
    obtain ⟨ra, rc, h1, -, -⟩ := hrow _ _ hx
    have hBw := hB
    rw [← hbe] at hBw
    refine ⟨ra, rc, (hBw.cell (p := ⟨lb, lo + q1 + i, none⟩) hlb).trans ?_⟩
    rw [Nat.add_assoc]
    exact h1
  have HC := Lib.hid hcell
  unfold plV
  simp only
  have hlt : lb < wb.heap.size := by have := hB.size; omega
  have hqc : q1 < c := by omega
  clear h hl hrow hc hk hfar hZ hlb' hbe hwb hB hcell hgk hjn hj he1
  go_enter Try.func88, Try.ntmps88
  go_upto_region 1 with fail
  rw [HBE.out, HW.out]
  go_wp2_with fail
  go_loopw [8, 32] (fun v8 v32 wr => ∃ (i z : Nat), v8 = .int .i64 (z : Nat) ∧ v32 = .int .i64 (i : Nat) ∧ i ≤ k ∧ z ≤ 2199025352704 ∧ Hid (z = Z + lackR L q1 col i ∧ wr = wb)) (fun _ v32 _ => k - (intOf v32).toNat)
  case atStart => exact ⟨0, Z, rfl, rfl, by omega, by omega, by simp [lackR], rfl⟩
  case round =>
    obtain ⟨i, z, rfl, rfl, hik, hz, hst⟩ := hrel
    obtain ⟨hz2, rfl⟩ := hst.out
    by_cases hlt2 : i < k
    · obtain ⟨x, hx⟩ : ∃ x, L[q1 + i]? = some x := ⟨_, List.getElem?_eq_getElem (by have := HL.out; omega)⟩
      obtain ⟨ra, rc, hcx⟩ := HC.out i x hx
      have hnr := lackR_near col hx
      obtain ⟨y, hy⟩ : ∃ y, x.length = y := ⟨_, rfl⟩
      rw [hy] at hcx hnr
      obtain ⟨m2, hm2⟩ : ∃ m2, col - y = m2 := ⟨_, rfl⟩
      have hmx : max ((col : Int) - (y : Int)) 0 = (m2 : Int) := by omega
      have hyb : y ≤ 9223372036854775807 := by
        obtain ⟨ra2, rc2, -, h2, -⟩ := HROW.out _ _ hx
        have := h2.small
        omega
      have hzn : z + m2 = Z + lackR L q1 col (i + 1) := by omega
      have hzb : z + m2 ≤ 2199025352704 := by have := HLB.out (i + 1) (by omega); omega
      have HN := Lib.hid hzn
      have hm3 : m2 ≤ 1048576 := by omega
      clear hx hnr hy hz2 hst hm2 hzn
      go_wp2_with fail
      go_roundw
      case rel => exact ⟨i + 1, z + m2, by first | rfl | (rw [hmx]; rfl) | go_num, by go_num, by omega, hzb, HN.out, (by first | trivial | rfl)⟩
      case measure => simp [intOf]; omega
    · obtain rfl : i = k := by omega
      have HN : Hid (z = lackR L q1 col gn) := by show _ = _; have := HF.out; omega
      clear hst hz2
      go_wp2_with fail
      go_ret
      refine ⟨by rw [HN.out]; rfl, ?_⟩
      exact HB.out
end Go.Proofs.Ytfldjoiohejilaa.U

namespace Go.Proofs.Ytfldjoiohejilaa.U
open Go.RowKit
set_option linter.unusedVariables false
set_option linter.unusedSimpArgs false
set_option maxRecDepth 100000

theorem mul_small (x n P : Nat) (w : World) (hP : x * n = P) (hx : x ≤ 1073741824) (hn : n ≤ 1073741824) (hb : P ≤ 1073741824) :
    Calls Try.prog 98 #[.int .u64 (x : Nat), .int .u64 (n : Nat)] w fun e w' => e = .returned (.tuple #[.int .u64 0, .int .u64 (P : Nat)]) ∧ w = w' := by
  have e1 : bits .and .u64 x 4294967295 = x := u64_mask32 x (by omega) (by omega)
  have e2 : bits .and .u64 n 4294967295 = n := u64_mask32 n (by omega) (by omega)
  have e3 : bits .and .u64 0 4294967295 = 0 := by decide
  have d1 : (n : Int) / 4294967296 = 0 := by omega
  have d2 : (x : Int) / 4294967296 = 0 := by omega
  have d3 : (P : Int) / 4294967296 = 0 := by omega
  have hm : (x : Int) * (n : Int) = (P : Int) := by rw [← hP]; push_cast; rfl
  have h1 : IntKind.u64.wrap (n : Int) = n := by rw [wrap_u64m]; omega
  have h2 : IntKind.u64.wrap (x : Int) = x := by rw [wrap_u64m]; omega
  have h3 : IntKind.u64.wrap (P : Int) = P := by rw [wrap_u64m]; omega
  have h0 : IntKind.u64.wrap 0 = 0 := by decide
  clear hP
  go_enter Try.func98, Try.ntmps98
  go_wp2
  go_ret2
  exact ⟨rfl, rfl⟩
/-- n cells, the first k of them R's -/
def perRow (R : List Value) (n k : Nat) : List Value := R.take k ++ List.replicate (n - k) (.int .i32 0)
theorem perRow_len {R : List Value} {n k : Nat} (hR : R.length = n) (h : k ≤ n) : (perRow R n k).length = n := by simp [perRow]; omega
theorem perRow_0 (R : List Value) (n : Nat) : perRow R n 0 = List.replicate n (.int .i32 0) := by simp [perRow]
theorem perRow_full {R : List Value} {n : Nat} (hR : R.length = n) : perRow R n n = R := by simp [perRow]; rw [List.take_of_length_le (by omega)]
theorem perRow_splice {R C : List Value} {n k j : Nat} (hR : R.length = n) (hC : C.length = j) (h : k + j ≤ n) (ht : R.take k ++ C = R.take (k + j)) : splice (perRow R n k) k C = perRow R n (k + j) := by
  unfold splice perRow
  have hk : (R.take k).length = k := by rw [List.length_take]; omega
  rw [List.take_left' hk, ← List.append_assoc, ht, List.drop_append, hk, hC, show k + j - k = j by omega, List.drop_of_length_le (by rw [hk]; omega), List.nil_append, List.drop_replicate]
  congr 2
  omega
theorem ints_take (x : List Int) (k : Nat) : (ints x).take k = ints (x.take k) := by unfold ints; rw [List.map_take]
theorem ints_ln (x : List Int) : (ints x).length = x.length := by simp [ints]
theorem repL_add (a b : Nat) (x : List Int) : repL (a + b) x = repL a x ++ repL b x := by unfold repL; rw [← List.replicate_append_replicate, List.flatten_append]
theorem repL_take {m : Nat} {x : List Int} {q j : Nat} (h : q * x.length + j ≤ m * x.length) (hx : 0 < x.length) : (repL m x).take (q * x.length) ++ (repL m x).take j = (repL m x).take (q * x.length + j) := by
  have hq : q ≤ m := by
    have : q * x.length ≤ m * x.length := by omega
    exact Nat.le_of_mul_le_mul_right this hx
  obtain ⟨d, rfl⟩ : ∃ d, m = q + d := ⟨m - q, by omega⟩
  have hj : j ≤ (repL d x).length := by rw [repL_len]; rw [Nat.add_mul] at h; omega
  have h1 : repL (q + d) x = repL q x ++ repL d x := repL_add q d x
  have h2 : repL (q + d) x = repL d x ++ repL q x := by rw [Nat.add_comm]; exact repL_add d q x
  have hlq := repL_len q x
  have e1 : (repL (q + d) x).take (q * x.length) = repL q x := by rw [h1, List.take_left' hlq]
  have e2 : (repL (q + d) x).take j = (repL d x).take j := by rw [h2, List.take_append_of_le_length hj]
  have e3 : (repL (q + d) x).take (q * x.length + j) = repL q x ++ (repL d x).take j := by
    rw [h1, ← hlq, List.take_length_add_append]
  rw [e1, e2, e3]
theorem krpt_0 (xa : Option Addr) (xc m : Nat) (w : World) (hm : m ≤ 1048576) :
    Calls Try.prog 74 #[.slice xa 0 xc, .int .i64 (m : Nat)] w fun e w' => ∃ v, e = .returned v ∧ w'.ownsRow w.heap.size 21 1 v 0 [] ∧ Below w.heap.size w w' := by
  obtain ⟨i0, hi, hz0, hz1, hz2⟩ := info_parts infoR
  have hmk := run_make (P := Try.prog) w 35 21 i0 (.int .i32 0) Try.underlying35 hi hz0 .i64 .i64 0 0 (by omega) (by omega) (by omega) (by omega)
  simp only [Int.toNat_zero] at hmk
  have h1 : IntKind.u64.wrap (m : Int) = m := by rw [wrap_u64m]; omega
  go_enter Try.func74, Try.ntmps74
  go_wp2_with (first
    | (go_at_call 98; refine (mul_small 0 m 0 _ (by omega) (by omega) (by omega) (by omega)).mono ?_; rintro e w' ⟨rfl, rfl⟩)
    | (with_reducible refine wpList_copy_nothing rfl (.tmp 31) (.tmp 32) 35 35 rfl 21 Try.underlying35 sizeRK _ _ _ _ _ _ rfl rfl (by simp) ?_))
  go_loopw [8] (fun i wr => i = .int .i64 0 ∧ wr = w.alloc (.cells (madeCells #[.int .i32 0] 0) 21)) (fun _ _ => 0)
  case atStart => exact ⟨rfl, by simp [Value.cells]⟩
  case round =>
    obtain ⟨rfl, rfl⟩ := hrel
    go_wp2
    go_ret
    exact ⟨_, rfl, World.ownsRow_made w _ 0 (Nat.le_refl _) (by simp) (by simp [madeCells]), (Below.refl _ _).alloc (Nat.le_refl _) _⟩
set_option maxHeartbeats 2000000 in
theorem krpt_pos (xa : Option Addr) (xc y m n : Nat) (x : List Int) (w : World) (h : Rd .i32 w xa y xc x) (hy : 0 < y) (hm : 1 ≤ m) (hmy : m * y = n) (hn : n ≤ 1048576) :
    Calls Try.prog 74 #[.slice xa y xc, .int .i64 (m : Nat)] w fun e w' => ∃ v, e = .returned v ∧ w'.ownsRow w.heap.size 21 1 v n (ints (repL m x)) ∧ Below w.heap.size w w' := by
  obtain ⟨i0, hi, hz0, hz1, hz2⟩ := info_parts infoR
  have hxl := h.1
  have hmn : m ≤ n := by rw [← hmy]; exact Nat.le_mul_of_pos_right m hy
  have hyn : y ≤ n := by rw [← hmy]; exact Nat.le_mul_of_pos_left y (by omega)
  have hmk := run_make (P := Try.prog) w 35 21 i0 (.int .i32 0) Try.underlying35 hi hz0 .i64 .i64 n n (by omega) (by omega) (by rw [hz2]; omega) (by omega)
  simp only [Int.toNat_natCast, hz1] at hmk
  have h1 : IntKind.u64.wrap (m : Int) = m := by rw [wrap_u64m]; omega
  have h2 : IntKind.u64.wrap (y : Int) = y := by rw [wrap_u64m]; omega
  have h3 : IntKind.u64.wrap (n : Int) = n := by rw [wrap_u64m]; omega
  obtain ⟨bx, off, rfl, hbx, hall⟩ := h.all_ hy
  have hyc : y ≤ xc := h.2.1
  have HMUL : Hid (∀ W, Calls Try.prog 98 #[.int .u64 (y : Nat), .int .u64 (m : Nat)] W fun e w' => e = .returned (.tuple #[.int .u64 0, .int .u64 (n : Nat)]) ∧ W = w') := fun W => mul_small y m n W (by rw [Nat.mul_comm]; exact hmy) (by omega) (by omega) (by omega)
  obtain ⟨R, hR⟩ : ∃ R, ints (repL m x) = R := ⟨_, rfl⟩
  have hRl : R.length = n := by rw [← hR]; unfold ints; rw [List.length_map, repL_len, hxl, hmy]
  have hRy : R.take y = ints x := by
    rw [← hR, ints_take]
    obtain ⟨d, rfl⟩ : ∃ d, m = 1 + d := ⟨m - 1, by omega⟩
    rw [repL_add]
    have h1x : repL 1 x = x := by simp [repL]
    rw [h1x, ← hxl, List.take_left' rfl]
  have hRp : ∀ q j, q * y + j ≤ n → R.take (q * y) ++ R.take j = R.take (q * y + j) := by
    intro q j hq
    rw [← hR, ints_take, ints_take, ints_take]
    have := repL_take (m := m) (x := x) (q := q) (j := j) (by rw [hxl, hmy]; exact hq) (by omega)
    rw [hxl] at this
    rw [← this]
    unfold ints
    rw [List.map_append]
  have hR1 : ∀ v ∈ R, v.oneCell' = true := by
    intro v hv
    rw [← hR] at hv
    unfold ints at hv
    obtain ⟨z, -, rfl⟩ := List.mem_map.1 hv
    rfl
  have hsrc : ∀ j v, (ints x)[j]? = some v → w.cell? ⟨bx, off + j, none⟩ = some v := by
    intro j v hv
    have hj := (List.getElem?_eq_some_iff.1 hv).1
    rw [ints_ln, hxl] at hj
    have := hall j hj
    unfold ints at hv
    rw [List.getElem?_map, List.getElem?_eq_getElem (by omega)] at hv
    rw [List.getD_eq_getElem?_getD, List.getElem?_eq_getElem (by omega)] at this
    simp at hv this
    rw [this, hv]
  have hcells : (madeCells (Value.int .i32 0).cells (n * 1)) = (perRow R n 0).toArray := by
    rw [perRow_0, ← toList_madeCells_one]; simp [Value.cells]
  rw [hcells] at hmk
  obtain ⟨row, hrow⟩ : ∃ row, perRow R n 0 = row := ⟨_, rfl⟩
  have hlen : row.length = n := by rw [← hrow]; exact perRow_len hRl (by omega)
  rw [hrow] at hmk
  have HL := Lib.hid hlen
  have HSRC := Lib.hid hsrc
  have HX := Lib.hid hxl
  have HRL := Lib.hid hRl
  have HRY := Lib.hid hRy
  have HRP := Lib.hid hRp
  have HR1 := Lib.hid hR1
  have HR := Lib.hid hR
  have HROW := Lib.hid hrow; clear hrow hlen hcells h hxl hall hR hRl hRy hRp hR1 hsrc
  have HMY := Lib.hid hmy
  clear hmy
  go_enter Try.func74, Try.ntmps74
  go_wp2_with (first
    | (go_at_call 98; refine (HMUL.out _).mono ?_; rintro e w' ⟨rfl, rfl⟩)
    | (with_reducible refine wpList_copy_splice rfl (.tmp 31) (.tmp 32) 35 35 rfl 21 Try.underlying35 sizeRK _ _ _ _ _ _ rfl rfl w.heap.size 0 row 21 (heap_alloc_new w _) (ints x) ?c1 ?c2 ?c3 ?c4 w.heap.size w ?c5 (Nat.le_refl _) ?_))
  case c1 => have := HX.out; rw [ints_ln]; show _ = min y n; omega
  case c2 =>
    intro hp
    exact HSRC.out
  case c3 => have := HL.out; have := HX.out; rw [ints_ln]; omega
  case c4 => intro v hv; exact HR1.out v (by rw [← HRY.out] at hv; exact List.mem_of_mem_take hv)
  case c5 => exact (Below.refl _ _).alloc (Nat.le_refl _) _
  intro w2 hg2 hb2
  have hxy := HX.out
  have HG : Hid (w2.heap[w.heap.size]? = some (.cells (perRow R n y).toArray 21 (0, 0))) := by
    have h := hg2.out
    rw [← HROW.out, perRow_splice HRL.out (j := y) (by rw [ints_ln, hxy]) (by omega) (by rw [List.take_zero, List.nil_append, Nat.zero_add]; exact HRY.out.symm), Nat.zero_add] at h
    exact h
  have hil : (ints x).length = y := by rw [ints_ln, hxy]
  rw [hil]
  clear hg2 hmk hxy hil
  go_wp2_with fail
  go_loopw [8] (fun i wr => ∃ k : Nat, 1 ≤ k ∧ k ≤ n ∧ i = .int .i64 k ∧ Hid (wr.heap[w.heap.size]? = some (.cells (perRow R n k).toArray 21 (0, 0)) ∧ Below w.heap.size w wr ∧ (k < n → ∃ q, k = q * y))) (fun i _ => n - (intOf i).toNat)
  case atStart => exact ⟨y, by omega, by omega, rfl, HG.out, hb2, fun _ => ⟨1, by omega⟩⟩
  case round =>
    obtain ⟨k, hk1, hk, rfl, hst⟩ := hrel
    clear HG hb2
    by_cases hlt : k < n
    · obtain ⟨j, hj⟩ : ∃ j, min k (n - k) = j := ⟨_, rfl⟩
      have hj1 : 1 ≤ j := by omega
      have hj2 : k + j ≤ n := by omega
      have hjl : (R.take j).length = j := by have := HRL.out; rw [List.length_take]; omega
      have s0 : Hid (wr.drew.heap[w.heap.size]? = some (.cells (perRow R n k).toArray 21 (0, 0))) := hst.out.1
      have s1 : Hid ((R.take j).length = Nat.min k (n - k)) := by show _ = _; rw [hjl, ← hj]
      have s2 : Hid (0 < (R.take j).length → (if n = k then some (⟨w.heap.size, 0, none⟩ : Addr) else some ⟨w.heap.size, k, none⟩) = some ⟨w.heap.size, k, none⟩ ∧
          ∃ ad, some (⟨w.heap.size, 0, none⟩ : Addr) = some ad ∧ ∀ i v, (R.take j)[i]? = some v → wr.drew.cell? (ad.add i) = some v) := by
        intro hp
        refine ⟨by rw [if_neg (by omega)], _, rfl, fun i v hv => ?_⟩
        have hi : i < j := by have := (List.getElem?_eq_some_iff.1 hv).1; omega
        have he : (⟨w.heap.size, 0, none⟩ : Addr).add i = ⟨w.heap.size, i, none⟩ := by rw [add_lit, Nat.zero_add]
        have hRLo := HRL.out
        rw [he, cell_of_row _ _ _ _ _ _ s0.out]
        rw [List.getElem?_take, if_pos hi] at hv
        simp only [List.getElem?_toArray, perRow]
        rw [List.getElem?_append_left (by rw [List.length_take]; omega), List.getElem?_take, if_pos (by omega)]
        exact hv
      have s3 : Hid (k + (R.take j).length ≤ (perRow R n k).length) := by show _ ≤ _; rw [perRow_len HRL.out hk, hjl]; exact hj2
      have s4 : Hid (∀ v ∈ R.take j, v.oneCell' = true) := fun v hv => HR1.out v (List.mem_of_mem_take hv)
      have hb2 := hst.out.2.1.drew
      have hsp : Hid (splice (perRow R n k) k (R.take j) = perRow R n (k + j)) := by
        obtain ⟨q, hq⟩ := hst.out.2.2 hlt
        have h5 := HRP.out q j (by omega)
        rw [← hq] at h5
        exact perRow_splice HRL.out hjl hj2 h5
      have hnx : Hid (k + j < n → ∃ q, k + j = q * y) := by
        intro hlt2
        obtain ⟨q, hq⟩ := hst.out.2.2 hlt
        exact ⟨q + q, by rw [Nat.add_mul]; omega⟩
      have hw : IntKind.i64.wrap ((k : Int) + (j : Int)) = (k : Int) + (j : Int) := by rw [IntKind.wrap_i64]; omega
      obtain ⟨cs, hcs⟩ : ∃ cs, R.take j = cs := ⟨_, rfl⟩
      rw [hcs] at s1 s2 s3 s4 hsp hjl
      clear hj hst hcs
      go_wp2_with fail
      go_region_law (refine step_copy_splice rfl (.tmp 41) (.tmp 44) 35 35 rfl 21 Try.underlying35 sizeRK (if n = k then some (⟨w.heap.size, 0, none⟩ : Addr) else some ⟨w.heap.size, k, none⟩) (some ⟨w.heap.size, 0, none⟩) (n - k) (n - k) k n (by simp [Act.eval, Act.put]) (by simp [Act.eval, Act.put]) w.heap.size k (perRow R n k) 21 s0.out cs s1.out s2.out s3.out s4.out w.heap.size w hb2 (Nat.le_refl _) ?_; intro w4 hg4 hb4)
      all_goals
        rw [hsp.out] at hg4
        try rw [hjl]
        go_wp2_with fail
        go_roundw
        case rel => first | exact ⟨k + j, by omega, by omega, by simp, hg4.out, hb4, hnx.out⟩ | exact ⟨k + j, by omega, by omega, by simp, hg4.out, hnx.out⟩
        case measure => simp [intOf]; omega
    · obtain rfl : k = n := by omega
      go_wp2
      go_ret
      refine ⟨_, rfl, own_of_row hst.out.1 (Nat.le_refl _) (by rw [perRow_full HRL.out]; exact ⟨HR.out.symm, HRL.out⟩) (by unfold maxLen; omega), hst.out.2.1⟩
/-- slices.Repeat of a row of runes -/
theorem krpt_any (xa : Option Addr) (xc y m : Nat) (x : List Int) (w : World) (h : Rd .i32 w xa y xc x) (hm : 1 ≤ m) (hm2 : m ≤ 1048576) (hn : m * y ≤ 1048576) :
    Calls Try.prog 74 #[.slice xa y xc, .int .i64 (m : Nat)] w fun e w' => ∃ v, e = .returned v ∧ w'.ownsRow w.heap.size 21 1 v (repL m x).length (ints (repL m x)) ∧ Below w.heap.size w w' := by
  have hl := h.1
  have hrl := repL_len m x
  by_cases hy : y = 0
  · subst hy
    have hx : x = [] := List.eq_nil_of_length_eq_zero hl
    subst hx
    have h0 : repL m [] = [] := List.eq_nil_of_length_eq_zero (by rw [hrl]; simp)
    rw [h0]
    exact krpt_0 xa xc m w hm2
  · refine (krpt_pos xa xc y m (m * y) x w h (by omega) hm rfl hn).mono ?_
    rintro e w' ⟨v, h1, h2, h3⟩
    rw [hrl, hl]
    exact ⟨v, h1, h2, h3⟩
end Go.Proofs.Ytfldjoiohejilaa.U

namespace Go.Proofs.Ytfldjoiohejilaa.U
open Go.RowKit
set_option linter.unusedVariables false
set_option linter.unusedSimpArgs false
set_option maxRecDepth 100000

theorem ktimes_any (r : Int) (E m M : Nat) (w : World) (hM : M = if E = 0 then 1 else m) (hr : -4611686018427387904 ≤ r ∧ r ≤ 4611686018427387904) (hE : E ≤ 9223372036854775807) (hm1 : 1 ≤ m) (hm9 : m ≤ 9223372036854775807) :
    Calls Try.prog 85 #[.int .i64 r, .int .i64 (E : Nat), .int .i64 (m : Nat)] w fun e w' => e = .returned (.tuple #[.int .i64 (M : Nat), .bool (decide (((M * E : Nat) : Int) ≤ r))]) ∧ Below w.heap.size w w' := by
  by_cases e0 : E = 0
  · subst e0
    rw [if_pos rfl] at hM
    subst hM
    exact ktimes_0 r (m : Int) w
  · rw [if_neg e0] at hM
    subst hM
    refine (ktimes_pos r (E : Int) (M : Int) w hr (by omega) ⟨by omega, by omega⟩ (by omega) ⟨by omega, by omega⟩).mono ?_
    rintro e w' ⟨rfl, hb⟩
    have hmul : ((M * E : Nat) : Int) = (M : Int) * (E : Int) := by push_cast; rfl
    exact ⟨by rw [hmul], hb⟩
theorem PfS.cells {w W : World} {b : Nat} {q : Pl} (h : PfS w b q W) : W.cell? ⟨b, 0, none⟩ = some (.int .i64 (q.1 : Nat)) ∧ W.cell? ⟨b, 1, none⟩ = some (.int .i64 (q.2 : Nat)) := ⟨cell_row h.2.1 0, cell_row h.2.1 1⟩
set_option maxHeartbeats 4000000 in
theorem kpblock_no (F G : Nat → Prop) (a : Option Addr) (n c : Nat) (L : List (List Int)) (ga : Option Addr) (gn gc : Nat) (GL : List (List Int)) (q1 col m M : Nat) (w : World) (h : RdL F w a n c L) (hs : sizeN (lens L) ≤ 65536) (hg : RdL G w ga gn gc GL) (hgs : sizeN (lens GL) ≤ 65536) (hq : q1 < n) (hcol : col ≤ 1048576) (hm1 : 1 ≤ m) (hm9 : m ≤ 9223372036854775807) (hM : M = if widestR GL * GL.length = 0 then 1 else m) (hR : 65537 < sizeN (lens L) + lackR L q1 col GL.length + M * (widestR GL * GL.length)) :
    Calls Try.prog 55 #[.slice a n c, plV (q1, col), .slice ga gn gc, .int .i64 (m : Nat)] w fun e w' => e = .returned (.tuple #[.slice none 0 0, plV (0, 0), .int .i64 3]) ∧ Below w.heap.size w w' := by
  have hl := h.len
  have hgl := hg.len
  have hLc := size_count L
  have hGc := size_count GL
  have hwid : widestR GL ≤ 65536 := by
    refine widest_le GL 65536 (fun x hx => ?_)
    have := sizeN_mem (List.mem_map.2 ⟨x, hx, rfl⟩ : List.length x ∈ List.map List.length GL)
    unfold lens at hgs
    omega
  unfold plV
  simp only
  obtain ⟨wb, hwb⟩ : ∃ wb, (w.alloc (.cells #[.int .i64 (q1 : Nat), .int .i64 (col : Nat)] 24)).alloc (.cells #[.int .i64 0, .int .i64 0] 24) = wb := ⟨_, rfl⟩
  have hP := pfs_new w (q1, col)
  simp only at hP
  rw [hwb] at hP
  obtain ⟨b, hbe⟩ : ∃ b, w.heap.size = b := ⟨_, rfl⟩
  rw [hbe] at hP
  obtain ⟨bz, hbz⟩ : ∃ bz, b + 1 = bz := ⟨_, rfl⟩
  have hlk : lackR L q1 col gn ≤ 1099512676352 := Nat.le_trans (lackR_le L q1 col gn) (Nat.le_trans (Nat.mul_le_mul (by omega : gn ≤ 1048576) (by omega : col + 1 ≤ 1048577)) (by decide))
  rw [hgl] at hM hR
  obtain ⟨wd, hwd⟩ : ∃ wd, widestR GL = wd := ⟨_, rfl⟩
  rw [hwd] at hM hR hwid
  obtain ⟨E, hE⟩ : ∃ E, wd * gn = E := ⟨_, rfl⟩
  have hEi : (wd : Int) * (gn : Int) = (E : Int) := by rw [← hE]; push_cast; rfl
  have hEb : E ≤ 4294967296 := by rw [← hE]; exact Nat.le_trans (Nat.mul_le_mul hwid (by omega : gn ≤ 65536)) (by decide)
  rw [hE] at hM hR
  obtain ⟨lk, hlke⟩ : ∃ lk, lackR L q1 col gn = lk := ⟨_, rfl⟩
  rw [hlke] at hR hlk
  obtain ⟨r, hr⟩ : ∃ r : Int, 65537 - (sizeN (lens L) : Int) = r := ⟨_, rfl⟩
  have hrb : 0 ≤ r ∧ r ≤ 65537 := by omega
  obtain ⟨r2, hr2⟩ : ∃ r2 : Int, r - (lk : Int) = r2 := ⟨_, rfl⟩
  have HLO : Hid (∀ W, Hid (PfS w b (q1, col) W) → Calls Try.prog 87 #[.slice ga gn gc] W fun e w' => e = .returned (.int .i64 (wd : Nat)) ∧ W = w') := by
    intro W hW
    have hb1 := hW.out.1
    rw [← hbe] at hb1
    rw [← hwd]
    exact (klongest_any G ga gn gc GL W (hg.below hb1)).mono fun _ _ h => ⟨h.1, h.2.symm⟩
  have HRO : Hid (∀ W, Hid (PfS w b (q1, col) W) → Calls Try.prog 61 #[.slice a n c] W fun e w' => e = .returned (.int .i64 r) ∧ (w'.cell? ⟨b, 0, none⟩ = some (.int .i64 (q1 : Nat)) ∧ w'.cell? ⟨b, 1, none⟩ = some (.int .i64 (col : Nat))) ∧ Hid (PfS w b (q1, col) w') ∧ Hid (PfS w b (q1, col) w'.drew)) := by
    intro W hW
    have hb1 := hW.out.1
    rw [← hbe] at hb1
    refine (kroom_any F a n c L W (h.below hb1) (by omega)).mono ?_
    rintro e w' ⟨rfl, rfl⟩
    exact ⟨by rw [hr], hW.out.cells, hW.out, hW.out.below hbe (Below.refl _ _).drew⟩
  have HLK : Hid (∀ W, Hid (PfS w b (q1, col) W) → Calls Try.prog 88 #[.slice a n c, .agg #[.int .i64 (q1 : Nat), .int .i64 (col : Nat)], .int .i64 (gn : Nat)] W fun e w' => e = .returned (.int .i64 (lk : Nat)) ∧ (w'.cell? ⟨b, 0, none⟩ = some (.int .i64 (q1 : Nat)) ∧ w'.cell? ⟨b, 1, none⟩ = some (.int .i64 (col : Nat))) ∧ Hid (PfS w b (q1, col) w') ∧ Hid (PfS w b (q1, col) w'.drew)) := by
    intro W hW
    have hb1 := hW.out.1
    rw [← hbe] at hb1
    refine (klack_any F a n c L q1 col gn W (h.below hb1) hq (by omega) hcol (by omega)).mono ?_
    rintro e w' ⟨rfl, hb⟩
    have h2 := hW.out.below hbe hb
    exact ⟨by rw [hlke], h2.cells, h2, h2.below hbe (Below.refl _ _).drew⟩
  have HTI : Hid (∀ W, Hid (PfS w b (q1, col) W) → Calls Try.prog 85 #[.int .i64 r2, .int .i64 (E : Nat), .int .i64 (m : Nat)] W fun e w' => e = .returned (.tuple #[.int .i64 (M : Nat), .bool false]) ∧ (w'.cell? ⟨b, 0, none⟩ = some (.int .i64 (q1 : Nat)) ∧ w'.cell? ⟨b, 1, none⟩ = some (.int .i64 (col : Nat))) ∧ Hid (PfS w b (q1, col) w') ∧ Hid (PfS w b (q1, col) w'.drew)) := by
    intro W hW
    refine (ktimes_any r2 E m M W hM ⟨by omega, by omega⟩ (by omega) hm1 hm9).mono ?_
    rintro e w' ⟨rfl, hb⟩
    have h2 := hW.out.below hbe hb
    exact ⟨by rw [decide_eq_false (by omega)], h2.cells, h2, h2.below hbe (Below.refl _ _).drew⟩
  have hwr : IntKind.i64.wrap r2 = r2 := by rw [IntKind.wrap_i64]; omega
  have hwE : IntKind.i64.wrap (E : Int) = (E : Int) := by rw [IntKind.wrap_i64]; omega
  have HBE := Lib.hid hbe
  have HBZ := Lib.hid hbz
  have HW := Lib.hid hwb
  have HP := Lib.hid hP
  have hc0 := hP.cells
  simp only at hc0
  rw [hbe]
  clear h hg hwb hP hbe hbz hR hM hs hgs hwd hE hlke hr hl hgl hLc hGc hq
  go_enter Try.func55, Try.ntmps55
  go_upto_region 1 with fail
  rw [HBE.out, HW.out, HBZ.out]
  go_upto_region 2 with (go_at_call 87; (refine (HLO.out _ HP).mono ?_); rintro e wq ⟨rfl, hwq⟩; subst hwq)
  have HPD : Hid (PfS w b (q1, col) wb.drew) := HP.out.below HBE.out (Below.refl _ _).drew
  go_cut [3, 12] (fun v3 v12 W => v3 = .int .i64 (M : Nat) ∧ v12 = .bool false ∧ Hid (PfS w b (q1, col) W))
  case first =>
    go_region_held3 (fun W => W.cell? ⟨b, 0, none⟩ = some (.int .i64 (q1 : Nat)) ∧ W.cell? ⟨b, 1, none⟩ = some (.int .i64 (col : Nat)))
      (first | exact hc0 | exact HQ)
      (first
        | (go_at_call 61; (with_reducible first | refine (HRO.out _ HP).mono ?_ | refine (HRO.out _ HPD).mono ?_); rintro e w4 ⟨rfl, HQ, HP, HPD⟩)
        | (go_at_call 88; (with_reducible first | refine (HLK.out _ HP).mono ?_ | refine (HLK.out _ HPD).mono ?_); rintro e w4 ⟨rfl, HQ, HP, HPD⟩)
        | (go_at_call 85; (with_reducible first | refine (HTI.out _ HP).mono ?_ | refine (HTI.out _ HPD).mono ?_); rintro e w4 ⟨rfl, HQ, HP, HPD⟩))
    all_goals
      go_wp2_with fail
      go_meet
      exact ⟨rfl, rfl, HP⟩
  case rest =>
    obtain ⟨rfl, rfl, HP2⟩ := hcut
    have h2 := HP2.out.2.2
    rw [HBZ.out] at h2
    obtain ⟨x0, x1, z0, z1⟩ := row2 h2
    have hl := heap_lt h2
    clear h2 hc0 HP HPD
    go_wp2_with fail
    refine bodyPost_ret (v := .tuple #[.slice none 0 0, .agg #[.int .i64 0, .int .i64 0], .int .i64 3]) ?_ rfl ⟨rfl, ?_⟩
    · rw [results_tctK rfl]
      go_simp
      first | rfl | done
    · have h1 := HBZ.out
      have hb := HP2.out.1
      (repeat' (first | (with_reducible exact hb) | (with_reducible refine setCell_below ?_ _ _ _ ?_) | omega))
end Go.Proofs.Ytfldjoiohejilaa.U

namespace Go.Proofs.Ytfldjoiohejilaa.U
open Go.RowKit
set_option linter.unusedVariables false
set_option linter.unusedSimpArgs false
set_option maxRecDepth 100000

/-- pasteBlock, in its loop: its two boxes, the lines that are told so far -/
structure BkS (w : World) (b : Nat) (q : Pl) (M : List (List Int)) (ra : Option Addr) (j rc : Nat) (W : World) : Prop where
  pf : PfS w b q W
  fr : FreshL (b + 2) W ra j rc M
  l : b + 2 ≤ W.heap.size
theorem BkS.below {w W W' : World} {b : Nat} {q : Pl} {M : List (List Int)} {ra : Option Addr} {j rc : Nat} (h : BkS w b q M ra j rc W) (hw : w.heap.size = b) (hb : Below W.heap.size W W') : BkS w b q M ra j rc W' :=
  ⟨h.pf.below hw hb, h.fr.below hb, by have := h.l; have := hb.size; omega⟩
theorem BkS.start {w W : World} {b : Nat} {q : Pl} (h : PfS w b q W) (hw : w.heap.size = b) (n : Nat) (hn : n ≤ 1048576) : BkS w b q [] (some ⟨W.heap.size, 0, none⟩) 0 n (W.alloc (.cells (madeCells #[.slice none 0 0] n) 35)) := by
  have hB2 := bal W (.cells (madeCells #[.slice none 0 0] n) 35)
  have h1 := heap_lt h.2.2
  refine ⟨h.below hw hB2, ?_, by have := hB2.size; omega⟩
  exact ⟨[], World.ownsRow_made W _ n (by omega) (by unfold maxLen; omega) (by simp [size_madeCells]), rfl, fun i x hx => by simp at hx, fun i j vi vj hij hi => by simp at hi⟩
theorem BkS.step {w W w5 : World} {b : Nat} {q : Pl} {M : List (List Int)} {ra : Option Addr} {j rc : Nat} (h : BkS w b q M ra j rc W) (hw : w.heap.size = b) (hb : Below W.heap.size W w5) {a1 : Option Addr} {m1 c1 : Nat} {x : List Int} (hm : x.length = m1) (ho : w5.ownsRow W.heap.size 21 1 (.slice a1 m1 c1) m1 (ints x)) (hj : j ≤ 1099511627776) :
    ∃ a3 c3 w3, (∀ ty, (Builtin.append_ #[22, 22] ty #[.slice ra j rc, .slice (some ⟨w5.heap.size, 0, none⟩) 1 1]).run Try.prog (w5.alloc (.cells #[.slice a1 m1 c1] 35)) = .ok (.slice a3 (j + 1) c3) w3) ∧ BkS w b q (M ++ [x]) a3 (j + 1) c3 w3 := by
  obtain ⟨a3, c3, w3, hrun, hf, hb3⟩ := fresh_snoc W w5 (b + 2) ra j rc _ h.fr hb h.l a1 m1 c1 x hm ho (by omega)
  exact ⟨a3, c3, w3, hrun, ⟨h.pf.1.trans (hb3.mono (by omega)), (hb3.block b (by omega)).trans h.pf.2.1, (hb3.block (b + 1) (by omega)).trans h.pf.2.2⟩, hf, by have := hb3.size; have := h.l; omega⟩
/-- one line more: slices.Concat of three pieces, and append -/
theorem BkS.cat {w W : World} {b : Nat} {q : Pl} {M : List (List Int)} {ra : Option Addr} {j rc : Nat} (h : BkS w b q M ra j rc W) (hw : w.heap.size = b) (hj : j ≤ 1048576) (a1 a2 a3 : Option Addr) (n1 c1 n2 c2 n3 c3 : Nat) (x y z : List Int) (h1 : Rd .i32 W a1 n1 c1 x) (h2 : Rd .i32 W a2 n2 c2 y) (h3 : Rd .i32 W a3 n3 c3 z) (hb : n1 + n2 + n3 ≤ 549755813888) (W2 : World) (hW2 : W2 = W.alloc (.cells #[.slice a1 n1 c1, .slice a2 n2 c2, .slice a3 n3 c3] 35) ∨ W2 = (W.alloc (.cells #[.slice a1 n1 c1, .slice a2 n2 c2, .slice a3 n3 c3] 35)).drew) :
    Calls Try.prog 46 #[.slice (some ⟨W.heap.size, 0, none⟩) 3 3] W2 fun e w5 => ∃ a' c', e = .returned (.slice a' (n1 + n2 + n3) c') ∧
      ∃ a4 c4 w4, Hid (∀ ty, (Builtin.append_ #[22, 22] ty #[.slice ra j rc, .slice (some ⟨w5.heap.size, 0, none⟩) 1 1]).run Try.prog (w5.alloc (.cells #[.slice a' (n1 + n2 + n3) c'] 35)) = .ok (.slice a4 (j + 1) c4) w4) ∧ Hid (BkS w b q (M ++ [x ++ y ++ z]) a4 (j + 1) c4 w4) := by
  refine (kcat3 W W2 a1 a2 a3 n1 c1 n2 c2 n3 c3 x y z h1 h2 h3 hb hW2).mono ?_
  rintro e w5 ⟨a', c', rfl, ho, hb5⟩
  have hl : (x ++ y ++ z).length = n1 + n2 + n3 := by have := h1.1; have := h2.1; have := h3.1; simp; omega
  obtain ⟨a4, c4, w4, hrun, hN⟩ := h.step hw hb5 hl ho (by omega)
  exact ⟨a', c', rfl, a4, c4, w4, hrun, hN⟩
theorem filled_wf {x : List Int} (h : ∀ z ∈ x, (Lit.int .i32 z).wf = true) (k : Nat) : ∀ z ∈ filledR x k, (Lit.int .i32 z).wf = true := by
  intro z hz
  unfold filledR at hz
  rcases List.mem_append.1 hz with hz | hz
  · exact h z hz
  · unfold blanksR at hz; rw [List.eq_of_mem_replicate hz]; decide
theorem BkS.fill {w W : World} {b : Nat} {q : Pl} {M : List (List Int)} {ra : Option Addr} {j rc : Nat} (h : BkS w b q M ra j rc W) (hw : w.heap.size = b) {xa : Option Addr} {y xc : Nat} {x : List Int} (hx : Rd .i32 W xa y xc x) (hy : y ≤ 1048576) (k fl : Nat) (hk : k ≤ 1048576) (hfl : (filledR x k).length = fl) :
    Calls Try.prog 89 #[.slice xa y xc, .int .i64 (k : Nat)] W fun e w' => ∃ fa fc, e = .returned (.slice fa fl fc) ∧ BkS w b q M ra j rc w' ∧ Rd .i32 w' fa fl fc (filledR x k) ∧ Below W.heap.size W w' := by
  refine (kfilled_any xa y xc x k W hx hy hk).mono ?_
  rintro e w' ⟨fa, fc, rfl, ho, hb⟩
  rw [hfl] at ho ⊢
  exact ⟨fa, fc, rfl, h.below hw hb, own_rd ho (filled_wf hx.2.2.2.1 k), hb⟩
theorem BkS.rpt {w W : World} {b : Nat} {q : Pl} {M : List (List Int)} {ra : Option Addr} {j rc : Nat} (h : BkS w b q M ra j rc W) (hw : w.heap.size = b) {xa : Option Addr} {y xc : Nat} {x : List Int} (hx : Rd .i32 W xa y xc x) (m tl : Nat) (hm : 1 ≤ m) (hm2 : m ≤ 1048576) (hn : m * y ≤ 1048576) (htl : m * y = tl) :
    Calls Try.prog 74 #[.slice xa y xc, .int .i64 (m : Nat)] W fun e w' => ∃ ta tc, e = .returned (.slice ta tl tc) ∧ BkS w b q M ra j rc w' ∧ Rd .i32 w' ta tl tc (repL m x) ∧ Below W.heap.size W w' := by
  have hl := hx.1
  have hlen : (repL m x).length = tl := by rw [repL_len, hl, htl]
  refine (krpt_any xa xc y m x W hx hm hm2 hn).mono ?_
  rintro e w' ⟨v, rfl, ho, hb⟩
  rw [hlen] at ho
  have ho2 : w'.ownsRow W.heap.size 21 1 v (repL m x).length (ints (repL m x)) := by rw [hlen]; exact ho
  obtain ⟨ta, tc, rfl⟩ := own_slice ho2
  rw [hlen] at ho2 ⊢
  refine ⟨ta, tc, rfl, h.below hw hb, own_rd ho2 (by
    intro z hz
    unfold repL at hz
    obtain ⟨u, hu, hz2⟩ := List.mem_flatten.1 hz
    rw [List.eq_of_mem_replicate hu] at hz2
    exact hx.2.2.2.1 z hz2), hb⟩
end Go.Proofs.Ytfldjoiohejilaa.U
