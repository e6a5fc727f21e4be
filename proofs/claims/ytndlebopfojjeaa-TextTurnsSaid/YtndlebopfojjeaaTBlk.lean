/-
  The contract of blocksOf.
-/
import Derived.Test.YtndlebopfojjeaaTRepl
namespace Go.Proofs.Ytndlebopfojjeaa.U
open Go.RowKit
set_option linter.unusedVariables false
set_option linter.unusedSimpArgs false
set_option maxRecDepth 100000

theorem makeBk (w : World) (n : Nat) (hn : n ≤ 1073741824) : (Instr.makeSlice 65 (.int .i64 n) (.int .i64 n)).run Try.prog w = .ok (.slice (some ⟨w.heap.size, 0, none⟩) n n) (w.alloc (.cells (madeCells #[.slice none 0 0, .int .i64 0] (n * 2)) 92)) := by
  obtain ⟨i, hi, hz0, hz1, hz2⟩ := info_parts infoBk
  have hr := run_make (P := Try.prog) w 65 92 i _ Try.underlying65 hi hz0 .i64 .i64 n n (by omega) (Int.le_refl _) (by rw [hz2]; omega) (by omega)
  simpa [hz1, Value.cells] using hr

/-- the first k pieces of a list of numbers at gb, off -/
def cutB (ns : List Nat) (M gb off c k : Nat) : Blks := (List.range k).map fun i => ((some ⟨gb, off + i * ns.length / M, none⟩, c - i * ns.length / M), pieceN ns M i)
theorem cutB_succ (ns : List Nat) (M gb off c k : Nat) : cutB ns M gb off c (k + 1) = cutB ns M gb off c k ++ [((some ⟨gb, off + k * ns.length / M, none⟩, c - k * ns.length / M), pieceN ns M k)] := by simp [cutB, List.range_succ]
theorem cutB_lists (ns : List Nat) (M gb off c k : Nat) : lists (cutB ns M gb off c k) = piecesN ns M k := by simp [cutB, lists, piecesN]
theorem pieceN_len {xs : List Nat} {m i : Nat} (hm : 0 < m) (hi : i < m) : (pieceN xs m i).length = (i + 1) * xs.length / m - i * xs.length / m := by
  have := cuts_le (n := xs.length) hm (i := i + 1) (by omega)
  unfold pieceN
  rw [List.length_drop, List.length_take, Nat.min_eq_left this]
theorem pieceN_sum (xs : List Nat) (m i : Nat) : (pieceN xs m i).sum ≤ xs.sum := by
  unfold pieceN
  have h1 := sum_take_le xs ((i + 1) * xs.length / m)
  have h2 := congrArg List.sum (List.take_append_drop (i * xs.length / m) (xs.take ((i + 1) * xs.length / m)))
  rw [List.sum_append] at h2
  omega
theorem piece_rdN {w : World} {ns : List Nat} {gb off n c M k : Nat} (h : RdN w (some ⟨gb, off, none⟩) n c ns) (hM : 0 < M) (hMn : M ≤ n) (hk : k < M) :
    RdN w (some ⟨gb, off + k * ns.length / M, none⟩) (pieceN ns M k).length (c - k * ns.length / M) (pieceN ns M k) := by
  have hl := h.len
  have h1 := cuts_mono (n := ns.length) hM (by omega) k
  have h2 := cuts_le (n := ns.length) hM (i := k + 1) (by omega)
  have hc := h.2.1
  have h3 := (h.take ((k + 1) * ns.length / M) (by omega)).drop (k * ns.length / M) (by omega)
  rw [if_neg (by omega)] at h3
  have e : Option.map (fun x : Addr => x.add (k * ns.length / M * 1)) (some ⟨gb, off, none⟩) = some ⟨gb, off + k * ns.length / M, none⟩ := by simp [add_lit]
  rw [e, ← pieceN_len hM hk] at h3
  exact h3

theorem set2_take (cur : List Value) (k : Nat) (a b : Value) (h : k * 2 + 2 ≤ cur.length) : ((cur.set (k * 2) a).set (k * 2 + 1) b).take ((k + 1) * 2) = cur.take (k * 2) ++ [a, b] := by
  apply List.ext_getElem?
  intro i
  rw [List.getElem?_take]
  by_cases hi : i < k * 2
  · rw [if_pos (by omega), List.getElem?_set_ne (by omega), List.getElem?_set_ne (by omega), List.getElem?_append_left (by simp; omega), List.getElem?_take, if_pos hi]
  · by_cases h0 : i = k * 2
    · subst h0
      rw [if_pos (by omega), List.getElem?_set_ne (by omega), List.getElem?_set_self (by omega), List.getElem?_append_right (by simp; omega), List.length_take, Nat.min_eq_left (by omega), Nat.sub_self]
      rfl
    · by_cases h1 : i = k * 2 + 1
      · subst h1
        rw [if_pos (by omega), List.getElem?_set_self (by simp; omega), List.getElem?_append_right (by simp; omega), List.length_take, Nat.min_eq_left (by omega), Nat.add_sub_cancel_left]
        rfl
      · rw [if_neg (by omega), List.getElem?_eq_none (by simp; omega)]
/-- a block is laid -/
theorem blk_set {w : World} {g k : Nat} {cur : List Value} {t : TypeId} (h : w.heap[g]? = some (.cells cur.toArray t (0, 0))) (a b : Value) :
    ((w.setCell ⟨g, k * 2, none⟩ a).setCell ⟨g, k * 2 + 1, none⟩ b).heap[g]? = some (.cells ((cur.set (k * 2) a).set (k * 2 + 1) b).toArray t (0, 0)) := by
  have h1 := heap_set (heap_set h (k * 2) a) (k * 2 + 1) b
  simpa using h1

set_option maxHeartbeats 2000000 in
theorem blocksOf_any (F : Nat → Prop) (gb off n c : Nat) (ns : List Nat) (w : World) (h : RdN w (some ⟨gb, off, none⟩) n c ns) (hF : F gb) (h0 : 0 < n) (hn : n ≤ 1048576) (hs : ns.sum ≤ lim) :
    Calls Try.prog 64 #[.slice (some ⟨gb, off, none⟩) n c] w fun e w' => ∃ M qs, e = .returned (.slice (some ⟨w.heap.size, 0, none⟩) M M) ∧ 0 < M ∧ M ≤ n ∧
      w'.ownsRow 0 92 2 (.slice (some ⟨w.heap.size, 0, none⟩) M M) M (flatB qs) ∧ BlkOk F w' qs ∧ (lists qs).flatten = ns ∧ Below w.heap.size w w' := by
  have hl := h.len
  obtain ⟨M, hM⟩ : ∃ M, (n + 255) / 256 = M := ⟨_, rfl⟩
  have hM0 : 0 < M := by omega
  have hMn : M ≤ n := by omega
  have hMb : M ≤ 4097 := by omega
  have hmk := makeBk w M (by omega)
  have hq : ((n : Int) + 256 - 1) / 256 = (M : Int) := by omega
  obtain ⟨w0, hw0⟩ : ∃ w0, w.alloc (.cells (madeCells #[.slice none 0 0, .int .i64 0] (M * 2)) 92) = w0 := ⟨_, rfl⟩
  rw [hw0] at hmk
  have HSTART : Hid ((∃ cur : List Value, w0.heap[w.heap.size]? = some (.cells cur.toArray 92 (0, 0)) ∧ cur.length = M * 2 ∧ cur.take (0 * 2) = flatB (cutB ns M gb off c 0)) ∧ Below w.heap.size w w0) := by
    refine ⟨⟨(madeCells #[.slice none 0 0, .int .i64 0] (M * 2)).toList, by rw [← hw0]; simpa using heap_alloc_new w _, by rw [Array.length_toList, size_madeCells], by simp [cutB, flatB]⟩, by rw [← hw0]; exact (Below.refl _ _).alloc (Nat.le_refl _) _⟩
  have HRD := Lib.hid h
  have HL := Lib.hid hl
  have HS := Lib.hid hs
  have hcc : c ≤ 9223372036854775807 := by have := h.2.2.1; unfold maxLen at this; omega
  have hnc : n ≤ c := h.2.1
  have hgb : gb < w.heap.size := by obtain ⟨b, o, e, hb, _⟩ := Rc.at_ h h0; cases e; exact hb
  have hd0 : ¬ ((256 : Int) = 0) := by omega
  clear h hl hs hw0 hM
  go_enter Try.func64, Try.ntmps64
  go_wp2_with fail
  go_loopw [14] (fun v14 wr => ∃ k : Nat, v14 = .int .i64 k ∧ k ≤ M ∧ Hid ((∃ cur : List Value, wr.heap[w.heap.size]? = some (.cells cur.toArray 92 (0, 0)) ∧ cur.length = M * 2 ∧ cur.take (k * 2) = flatB (cutB ns M gb off c k)) ∧ Below w.heap.size w wr)) (fun v14 _ => M - (intOf v14).toNat)
  case atStart => exact ⟨0, rfl, Nat.zero_le _, HSTART⟩
  case round =>
    obtain ⟨k, rfl, hk, hst⟩ := hrel
    clear HSTART hmk hq
    by_cases hkM : k < M
    · have e1 := cuts_mono (n := n) hM0 hMn k
      have e2 := cuts_le (n := n) hM0 (i := k + 1) (by omega)
      obtain ⟨lo, hlo⟩ : ∃ lo, k * n / M = lo := ⟨_, rfl⟩
      obtain ⟨hi, hhi⟩ : ∃ hi, (k + 1) * n / M = hi := ⟨_, rfl⟩
      rw [hlo, hhi] at e1
      rw [hhi] at e2
      have hkn : k * n ≤ 4097 * 1048576 := Nat.mul_le_mul (by omega) hn
      have hkn2 : (k + 1) * n ≤ 4097 * 1048576 := Nat.mul_le_mul (by omega) hn
      have p1 : IntKind.i64.wrap ((k : Int) * (n : Int)) = ((k * n : Nat) : Int) := by rw [IntKind.wrap_i64, ← Int.natCast_mul]; omega
      have p2 : IntKind.i64.wrap ((k : Int) + 1) = (k : Int) + 1 := by rw [IntKind.wrap_i64]; omega
      have p3 : IntKind.i64.wrap (((k : Int) + 1) * (n : Int)) = (((k + 1) * n : Nat) : Int) := by
        have e : ((k : Int) + 1) * (n : Int) = (((k + 1) * n : Nat) : Int) := by push_cast; rfl
        rw [e, IntKind.wrap_i64]; omega
      have q1 : ((k * n : Nat) : Int).tdiv (M : Int) = (lo : Int) := by rw [← hlo]; rfl
      have q2 : (((k + 1) * n : Nat) : Int).tdiv (M : Int) = (hi : Int) := by rw [← hhi]; rfl
      have i1 : lo ≤ hi := by omega
      have i2 : hi ≤ c := by omega
      have i3 : ¬ ((M : Int) = 0) := by omega
      have i4 : ¬ (c = lo) := by omega
      obtain ⟨P0, hP0⟩ : ∃ P0, k * n = P0 := ⟨_, rfl⟩
      obtain ⟨P1, hP1⟩ : ∃ P1, (k + 1) * n = P1 := ⟨_, rfl⟩
      rw [hP0] at p1 q1 hkn
      rw [hP1] at p3 q2 hkn2
      have HLO := Lib.hid hlo
      have HHI := Lib.hid hhi
      have i5 : ¬ (M = 0) := by omega
      have q3 : (P0 : Int) / (M : Int) = (lo : Int) := by rw [← q1]; exact (Int.tdiv_eq_ediv_of_nonneg (by omega)).symm
      have q4 : (P1 : Int) / (M : Int) = (hi : Int) := by rw [← q2]; exact (Int.tdiv_eq_ediv_of_nonneg (by omega)).symm
      clear hlo hhi hP0 hP1
      go_upto_region 5 with fail
      go_cut [5] (fun v5 wx => v5 = .slice (some ⟨gb, off + lo, none⟩) (hi - lo) (c - lo) ∧ ∃ q, wx = wr.drewN q)
      case first =>
        go_quiet (fail)
        go_wp2_with fail
        go_meet
        exact ⟨rfl, _, rfl⟩
      case rest =>
        obtain ⟨rfl, q, rfl⟩ := hcut
        obtain ⟨W, hW⟩ : ∃ W, wr.drewN q = W := ⟨_, rfl⟩
        have hst' : (∃ cur : List Value, W.heap[w.heap.size]? = some (.cells cur.toArray 92 (0, 0)) ∧ cur.length = M * 2 ∧ cur.take (k * 2) = flatB (cutB ns M gb off c k)) ∧ Below w.heap.size w W := by
          rw [← hW]
          exact ⟨hst.out.1, bdrewN hst.out.2 _⟩
        rw [hW]
        clear hW hst p1 p2 p3 q1 q2 q3 q4
        obtain ⟨⟨cur, hg, hcl, ht⟩, hb⟩ := hst'
        obtain ⟨u0, s0⟩ : ∃ u0, W.cell? ⟨w.heap.size, k * 2, none⟩ = some u0 := ⟨cur[k * 2]'(by omega), by rw [cell_row hg]; simp⟩
        obtain ⟨u1, s1⟩ : ∃ u1, W.cell? ⟨w.heap.size, k * 2 + 1, none⟩ = some u1 := ⟨cur[k * 2 + 1]'(by omega), by rw [cell_row hg]; simp⟩
        have z0 := frozen_row hg (k * 2)
        have z1 := frozen_row hg (k * 2 + 1)
        have hgl := heap_lt hg
        have hlo : k * ns.length / M = lo := by rw [HL.out]; exact HLO.out
        have hpl := pieceN_len (xs := ns) hM0 hkM
        rw [hlo, HL.out, HHI.out] at hpl
        have hsum := pieceN_sum ns M k
        have hrd : RdN W (some ⟨gb, off + lo, none⟩) (hi - lo) (c - lo) (pieceN ns M k) := by
          have := piece_rdN (Rc.below HRD.out hb) hM0 hMn hkM
          rw [hlo, hpl] at this
          exact this
        have hsl := HS.out
        unfold lim at hsl
        have HSUM := Lib.hid (sum_any _ _ _ (pieceN ns M k) W hrd (by unfold lim; omega))
        obtain ⟨y, hy⟩ : ∃ y, (pieceN ns M k).sum = y := ⟨_, rfl⟩
        rw [hy] at HSUM
        have hkM2 : (k : Int) < (M : Int) := by omega
        have HNX : Hid ((∃ cur : List Value, ((W.setCell ⟨w.heap.size, k * 2, none⟩ (.slice (some ⟨gb, off + lo, none⟩) (hi - lo) (c - lo))).setCell ⟨w.heap.size, k * 2 + 1, none⟩ (.int .i64 (y : Nat))).heap[w.heap.size]? = some (.cells cur.toArray 92 (0, 0)) ∧ cur.length = M * 2 ∧ cur.take ((k + 1) * 2) = flatB (cutB ns M gb off c (k + 1))) ∧
            Below w.heap.size w ((W.setCell ⟨w.heap.size, k * 2, none⟩ (.slice (some ⟨gb, off + lo, none⟩) (hi - lo) (c - lo))).setCell ⟨w.heap.size, k * 2 + 1, none⟩ (.int .i64 (y : Nat)))) := by
          refine ⟨⟨_, blk_set hg _ _, by simp [hcl], ?_⟩, (hb.setCell (Nat.le_refl _) _).setCell (Nat.le_refl _) _⟩
          rw [set2_take _ _ _ _ (by omega), ht, cutB_succ, flatB_append]
          congr 1
          simp only [flatB, List.flatMap_cons, List.flatMap_nil, List.append_nil, bcells]
          rw [hlo, hpl, hy]
        clear hg hcl ht hlo hpl hsum hrd hsl hy
        go_wp2_with (go_at_call 57; refine HSUM.out.mono ?_; rintro e w' ⟨rfl, rfl⟩)
        go_roundw
        case rel => exact ⟨k + 1, by go_num, by omega, HNX⟩
        case measure => simp [intOf]; omega
    · obtain rfl : k = M := by omega
      obtain ⟨⟨cur, hg, hcl, ht⟩, hb⟩ := hst.out
      have HFIN : Hid (∃ M' qs, Ending.returned (.slice (some ⟨w.heap.size, 0, none⟩) k k) = Ending.returned (.slice (some ⟨w.heap.size, 0, none⟩) M' M') ∧ 0 < M' ∧ M' ≤ n ∧
          wr.ownsRow 0 92 2 (.slice (some ⟨w.heap.size, 0, none⟩) M' M') M' (flatB qs) ∧ BlkOk F wr qs ∧ (lists qs).flatten = ns ∧ Below w.heap.size w wr) := by
        have ho := own_of (B := 0) (n := k) (cap := k) (size := 2) hg (Nat.zero_le _) (Nat.le_refl _) (by unfold maxLen; omega) (by rw [List.size_toArray, hcl])
        rw [show cur.toArray.toList.take (k * 2) = flatB (cutB ns k gb off c k) from ht] at ho
        refine ⟨k, cutB ns k gb off c k, rfl, hM0, hMn, ho, ?_, ?_, hb⟩
        · intro p hp
          simp only [cutB, List.mem_map, List.mem_range] at hp
          obtain ⟨i, hi, rfl⟩ := hp
          refine ⟨piece_rdN (Rc.below HRD.out hb) hM0 hMn hi, fun _ ad e => by cases e; exact hF, pieceN_ne hM0 (by rw [HL.out]; exact hMn) hi⟩
        · rw [cutB_lists, piecesN_flat hM0 (by rw [HL.out]; exact hMn), cuts_end hM0, List.take_length]
      clear hst hg hcl ht hb
      go_wp2_with fail
      go_ret
      exact HFIN.out
end Go.Proofs.Ytndlebopfojjeaa.U
