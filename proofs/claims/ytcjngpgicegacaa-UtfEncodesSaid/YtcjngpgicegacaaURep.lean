/-
  The contract of slices.Repeat of one rune.
-/
import Derived.Test.YtcjngpgicegacaaULib
import Derived.Deep.RegionLaw
namespace Go.Proofs.Ytcjngpgicegacaa.U
open Go.RowKit
set_option linter.unusedVariables false
set_option linter.unusedSimpArgs false

theorem sizeR : (Try.prog.info? 21).map (·.size) = some 1 := by kernel_rfl

/-- a row of n runes, the first k of them x, the others 0 -/
def repRow (x : Int) (n k : Nat) : List Value := List.replicate k (.int .i32 x) ++ List.replicate (n - k) (.int .i32 0)
theorem repRow_len (x : Int) {n k : Nat} (h : k ≤ n) : (repRow x n k).length = n := by simp [repRow]; omega
theorem repRow_0 (x : Int) (n : Nat) : repRow x n 0 = List.replicate n (.int .i32 0) := by simp [repRow]
theorem repRow_full (x : Int) (n : Nat) : repRow x n n = List.replicate n (.int .i32 x) := by simp [repRow]
theorem repRow_splice (x : Int) {n k m : Nat} (h : k + m ≤ n) : splice (repRow x n k) k (List.replicate m (.int .i32 x)) = repRow x n (k + m) := by
  unfold splice repRow
  rw [List.length_replicate, List.take_left' (by simp), List.drop_append]
  simp only [List.drop_replicate, List.length_replicate]
  rw [show k - (k + m) = 0 from by omega, List.replicate_zero, List.nil_append, ← List.append_assoc, List.replicate_append_replicate]
  congr 2
  omega

theorem own_of_row {w : World} {B g n : Nat} {e : TypeId} {cs xs : List Value} (hg : w.heap[g]? = some (.cells cs.toArray e (0, 0))) (hB : B ≤ g) (hx : cs = xs ∧ cs.length = n) (hn : n ≤ maxLen) :
    w.ownsRow B e 1 (.slice (some ⟨g, 0, none⟩) n n) n xs := by
  obtain ⟨rfl, hl⟩ := hx
  exact ⟨by omega, .inr ⟨g, n, _, rfl, hB, hg, Nat.le_refl _, hn, by simp [hl], by rw [List.take_of_length_le (by simp [hl])]⟩⟩

theorem repeat_0 (bx : Nat) (x : Int) (w : World) :
    Calls Try.prog 32 #[.slice (some ⟨bx, 0, none⟩) 1 1, .int .i64 0] w fun e w' => ∃ v, e = .returned v ∧ w'.ownsRow w.heap.size 21 1 v 0 [] ∧ Below w.heap.size w w' := by
  obtain ⟨i0, hi, hz0, hz1, hz2⟩ := info_parts infoR
  have hmk := run_make (P := Try.prog) w 24 21 i0 (.int .i32 0) Try.underlying24 hi hz0 .i64 .i64 0 0 (by omega) (by omega) (by omega) (by omega)
  simp only [Int.toNat_zero] at hmk
  go_enter Try.func32, Try.ntmps32
  go_wp2_with (first
    | (go_at_call 37; refine (mul_1 0 _ (by omega)).mono ?_; rintro e w' ⟨rfl, rfl⟩)
    | (with_reducible refine wpList_copy_nothing rfl (.tmp 31) (.tmp 32) 24 24 rfl 21 Try.underlying24 sizeR _ _ _ _ _ _ rfl rfl rfl ?_))
  go_loopw [8] (fun i wr => i = .int .i64 0 ∧ wr = w.alloc (.cells (madeCells #[.int .i32 0] 0) 21)) (fun _ _ => 0)
  case atStart => exact ⟨rfl, by simp [Value.cells]⟩
  case round =>
    obtain ⟨rfl, rfl⟩ := hrel
    go_wp2
    go_ret
    exact ⟨_, rfl, World.ownsRow_made w _ 0 (Nat.le_refl _) (by simp) (by simp [madeCells]), (Below.refl _ _).alloc (Nat.le_refl _) _⟩

set_option maxHeartbeats 2000000 in
theorem repeat_pos (bx : Nat) (x : Int) (n : Nat) (w : World) (hc : w.cell? ⟨bx, 0, none⟩ = some (.int .i32 x)) (h0 : 0 < n) (hn : n ≤ 1073741824) :
    Calls Try.prog 32 #[.slice (some ⟨bx, 0, none⟩) 1 1, .int .i64 n] w fun e w' => ∃ v, e = .returned v ∧ w'.ownsRow w.heap.size 21 1 v n (List.replicate n (.int .i32 x)) ∧ Below w.heap.size w w' := by
  obtain ⟨i0, hi, hz0, hz1, hz2⟩ := info_parts infoR
  have hmk := run_make (P := Try.prog) w 24 21 i0 (.int .i32 0) Try.underlying24 hi hz0 .i64 .i64 n n (by omega) (by omega) (by rw [hz2]; omega) (by omega)
  simp only [Int.toNat_natCast, hz1] at hmk
  have h1 : IntKind.u64.wrap (n : Int) = n := by rw [wrap_u64m]; omega
  have hbx : bx < w.heap.size := block_lt_of_cell hc
  have hcells : (madeCells (Value.int .i32 0).cells (n * 1)) = (repRow x n 0).toArray := by
    rw [repRow_0, ← toList_madeCells_one]; simp [Value.cells]
  rw [hcells] at hmk
  obtain ⟨row, hrow⟩ : ∃ row, repRow x n 0 = row := ⟨_, rfl⟩
  have hlen : row.length = n := by rw [← hrow]; exact repRow_len x (by omega)
  rw [hrow] at hmk
  have HL := Lib.hid hlen
  have HROW := Lib.hid hrow; clear hrow hlen hcells
  go_enter Try.func32, Try.ntmps32
  go_wp2_with (first
    | (go_at_call 37; refine (mul_1 n _ (by omega)).mono ?_; rintro e w' ⟨rfl, rfl⟩)
    | (with_reducible refine wpList_copy_splice rfl (.tmp 31) (.tmp 32) 24 24 rfl 21 Try.underlying24 sizeR _ _ _ _ _ _ rfl rfl w.heap.size 0 row 21 (heap_alloc_new w _) [.int .i32 x] ?c1 ?c2 ?c3 ?c4 w.heap.size w ?c5 (Nat.le_refl _) ?_))
  case c1 => simp [Nat.min_def]; omega
  case c2 =>
    intro j v hv
    match j, hv with
    | 0, hv => simp at hv; subst hv; exact hc
  case c3 => have := HL.out; simp; omega
  case c4 => intro v hv; simp at hv; subst hv; rfl
  case c5 => exact (Below.refl _ _).alloc (Nat.le_refl _) _
  intro w2 hg2 hb2
  have HG : Hid (w2.heap[w.heap.size]? = some (.cells (repRow x n 1).toArray 21 (0, 0))) := by
    have h := hg2.out
    rw [← HROW.out, show [Value.int .i32 x] = List.replicate 1 (.int .i32 x) from rfl, repRow_splice x (by omega)] at h
    exact h
  clear hg2 hmk
  go_wp2_with fail
  go_loopw [8] (fun i wr => ∃ k : Nat, 1 ≤ k ∧ k ≤ n ∧ i = .int .i64 k ∧ Hid (wr.heap[w.heap.size]? = some (.cells (repRow x n k).toArray 21 (0, 0))) ∧ Below w.heap.size w wr) (fun i _ => n - (intOf i).toNat)
  case atStart => exact ⟨1, by omega, by omega, rfl, HG, hb2⟩
  case round =>
    obtain ⟨k, hk1, hk, rfl, hg, hbl⟩ := hrel
    clear HG hb2
    by_cases hlt : k < n
    · obtain ⟨m, hm⟩ : ∃ m, min k (n - k) = m := ⟨_, rfl⟩
      have hm1 : 1 ≤ m := by omega
      have hm2 : k + m ≤ n := by omega
      have s0 : Hid (wr.drew.heap[w.heap.size]? = some (.cells (repRow x n k).toArray 21 (0, 0))) := hg
      have s1 : Hid ((List.replicate m (Value.int .i32 x)).length = Nat.min k (n - k)) := by show _ = _; rw [List.length_replicate, ← hm]
      have s2 : Hid (0 < (List.replicate m (Value.int .i32 x)).length → (if n = k then some (⟨w.heap.size, 0, none⟩ : Addr) else some ⟨w.heap.size, k, none⟩) = some ⟨w.heap.size, k, none⟩ ∧
          ∃ ad, some (⟨w.heap.size, 0, none⟩ : Addr) = some ad ∧ ∀ j v, (List.replicate m (Value.int .i32 x))[j]? = some v → wr.drew.cell? (ad.add j) = some v) := by
        intro hp
        refine ⟨by rw [if_neg (by omega)], _, rfl, fun j v hv => ?_⟩
        have hj : j < m := by have := (List.getElem?_eq_some_iff.1 hv).1; simpa using this
        rw [List.getElem?_replicate, if_pos hj] at hv
        have he : (⟨w.heap.size, 0, none⟩ : Addr).add j = ⟨w.heap.size, j, none⟩ := by
          by_cases h0 : j = 0
          · subst h0; rfl
          · simp [Addr.add]; intro hj; exact absurd hj h0
        rw [he, cell_of_row _ _ _ _ _ _ s0.out]
        simp only [List.getElem?_toArray, repRow]
        rw [List.getElem?_append_left (by simp; omega), List.getElem?_replicate, if_pos (by omega)]
        exact hv
      have s3 : Hid (k + (List.replicate m (Value.int .i32 x)).length ≤ (repRow x n k).length) := by show _ ≤ _; rw [repRow_len x hk]; simp; omega
      have s4 : Hid (∀ v ∈ List.replicate m (Value.int .i32 x), v.oneCell' = true) := by
        intro v hv; rw [List.mem_replicate] at hv; rw [hv.2]; rfl
      have hb2 := hbl.drew
      have hw : IntKind.i64.wrap ((k : Int) + (m : Int)) = (k : Int) + (m : Int) := by rw [IntKind.wrap_i64]; omega
      clear hm
      go_wp2_with fail
      go_region_law (refine step_copy_splice rfl (.tmp 41) (.tmp 44) 24 24 rfl 21 Try.underlying24 sizeR (if n = k then some (⟨w.heap.size, 0, none⟩ : Addr) else some ⟨w.heap.size, k, none⟩) (some ⟨w.heap.size, 0, none⟩) (n - k) (n - k) k n (by simp [Act.eval, Act.put]) (by simp [Act.eval, Act.put]) w.heap.size k (repRow x n k) 21 s0.out (List.replicate m (.int .i32 x)) s1.out s2.out s3.out s4.out w.heap.size w hb2 (Nat.le_refl _) ?_; intro w4 hg4 hb4)
      have HG4 : Hid (w4.heap[w.heap.size]? = some (.cells (repRow x n (k + m)).toArray 21 (0, 0))) := by
        have h := hg4.out
        rw [repRow_splice x (by omega)] at h
        exact h
      clear hg4 s0 s1 s2 s3 s4 hg hb2 hbl
      go_wp2_with fail
      go_roundw
      case rel => exact ⟨k + m, by omega, by omega, by simp, HG4⟩
      case measure => simp [intOf]; omega
    · obtain rfl : k = n := by omega
      go_wp2
      go_ret
      refine ⟨_, rfl, own_of_row hg.out (Nat.le_refl _) (by rw [repRow_full]; simp) (by unfold maxLen; omega), hbl⟩

theorem repeat_any (bx : Nat) (x : Int) (n : Nat) (w : World) (hc : w.cell? ⟨bx, 0, none⟩ = some (.int .i32 x)) (hn : n ≤ 1073741824) :
    Calls Try.prog 32 #[.slice (some ⟨bx, 0, none⟩) 1 1, .int .i64 n] w fun e w' => ∃ v, e = .returned v ∧ w'.ownsRow w.heap.size 21 1 v n (List.replicate n (.int .i32 x)) ∧ Below w.heap.size w w' := by
  by_cases h0 : n = 0
  · subst h0
    exact repeat_0 bx x w
  · exact repeat_pos bx x n w hc (by omega) hn

end Go.Proofs.Ytcjngpgicegacaa.U
