/-
  The program's list: add where it grows too large; joined.
-/
import Derived.Test.YtkjiobbkbhmijaaRAdd
namespace Go.Proofs.Ytkjiobbkbhmijaa.U
open Go.RowKit
set_option linter.unusedVariables false
set_option linter.unusedSimpArgs false
set_option maxRecDepth 100000

set_option maxHeartbeats 2000000 in
theorem add_big (q : Nat) (acc : List Re) (x : Re) (v : List Value) (w0 w : World) (G : Nat → Prop) (h : LsAt w0 q acc) (hf : Fr G w0 w) (hG : ∀ k, G k → k < q) (hx : PtAt (New w0 w) w v x) (hs : 401 ≤ szs acc + x.sz) :
    Calls Try.prog 31 #[.pointer (some ⟨q, 0, none⟩), ptV v x] w fun e w' => e = .returned (.tuple #[]) ∧ LsAt w' q (acc ++ [x]) ∧ Fr (fun k => q ≤ k) w w' := by
  have hq0 := h.lt
  have hsz := hf.size
  obtain ⟨k, r, sa, sn, sc, nt, l0, h0, pa, pn, pc, hv⟩ := hx.rev7
  obtain ⟨s2, hs2⟩ : ∃ s2, min x.sz 401 = s2 := ⟨_, rfl⟩
  have hpt : ptV v x = .agg #[.int .i64 k, .int .i32 r, .slice sa sn sc, .bool nt, .int .i64 l0, .int .i64 h0, .slice pa pn pc, .int .i64 (s2 : Nat)] := by unfold ptV; rw [hv, hs2]; rfl
  rw [hpt]
  obtain ⟨vs, ps, a, c, hg, hown, hps, hacc, hss⟩ := h.fr hf hG
  obtain ⟨s1, hs1⟩ : ∃ s1, min (szs acc) 401 = s1 := ⟨_, rfl⟩
  rw [hs1] at hg
  have hsum : 401 ≤ s1 + s2 := by omega
  have hsum2 : s1 + s2 ≤ 802 := by omega
  obtain ⟨n, hn⟩ : ∃ n, ps.length = n := ⟨_, rfl⟩
  rw [hn] at hg hown
  have hfin : ∀ W : World, Fr (fun j => j = q) w W → W.heap[q]? = some (.cells #[.slice a n c, .int .i64 401] 61 (0, 0)) → LsAt W q (acc ++ [x]) ∧ Fr (fun j => q ≤ j) w W := by
    intro W hW hWq
    refine ⟨⟨vs, ps, a, c, ?_, ?_, ?_, fun h => ?_, hss⟩, hW.mono (fun j _ h => by omega)⟩
    · rw [hWq, hn, szs_append]
      simp only [szs]
      rw [Nat.min_eq_right (by omega)]
      rfl
    · rw [hn]; exact own_fr hown hW (fun k hk e => row_block_apart hown hg (by decide) hk e)
    · exact PsAt.mono (fun k hk => ⟨hk.1, by have := hW.size; have := hk.2.1; omega, hk.2.2⟩) ps (PsAt.frF hW (fun k hk e => by have := hk.1; omega) ps hps)
    · rw [szs_append] at h; simp only [szs] at h; omega
  obtain ⟨w1, hw1⟩ : ∃ w1, w.alloc (.cells #[.int .i64 k, .int .i32 r, .slice sa sn sc, .bool nt, .int .i64 l0, .int .i64 h0, .slice pa pn pc, .int .i64 (s2 : Nat)] 55) = w1 := ⟨_, rfl⟩
  have hb1 : Below w.heap.size w w1 := by rw [← hw1]; exact (Below.refl _ w).alloc (Nat.le_refl _) _
  have hgA : w1.heap[w.heap.size]? = some (.cells #[.int .i64 k, .int .i32 r, .slice sa sn sc, .bool nt, .int .i64 l0, .int .i64 h0, .slice pa pn pc, .int .i64 (s2 : Nat)] 55 (0, 0)) := by rw [← hw1]; exact heap_alloc_new w _
  have hg1 := (hb1.block q (by omega)).trans hg
  have p7 : w1.cell? ⟨w.heap.size, 7, none⟩ = some (.int .i64 (s2 : Nat)) := by rw [cell_row hgA]; rfl
  have q1 : w1.cell? ⟨q, 1, none⟩ = some (.int .i64 (s1 : Nat)) := by rw [cell_row hg1]; rfl
  have z1 := frozen_row hg1 1
  have t1 : (401 : Int) ≤ (s1 : Int) + (s2 : Int) := by omega
  have t1' : ¬ (s1 : Int) + (s2 : Int) < 401 := by omega
  have t2 : (s1 : Int) + (s2 : Int) ≤ 802 := by omega
  have hne1 : ¬ q = w.heap.size := by omega
  have hne2 : ¬ w.heap.size = q := by omega
  have hF1 : Fr (fun j => j = q) w w1 := Fr.of_below _ hb1
  have HFIN := Lib.hid hfin
  have HG1 := Lib.hid hg1
  have HF1 := Lib.hid hF1
  have HW1 := Lib.hid hw1
  clear hfin hg1 hF1 hw1 hv hpt hs1 hs2 hn hg hgA hb1 hown hps hx hf h hG hacc hss hs hsum hsum2
  go_enter Try.func31, Try.ntmps31
  go_upto_region 1 with fail
  rw [HW1.out]
  go_region
  all_goals go_wp2
  all_goals go_end0
  all_goals
    refine ⟨rfl, HFIN.out _ ?_ ?_⟩
    · exact HF1.out.trans (((Fr.refl (fun j => j = q) w1).setCell ⟨q, 1, none⟩ _ (fun _ => rfl)).drew) (fun _ _ h => h)
    · first
        | exact heap_set HG1.out 1 (.int .i64 401)
        | (rw [show (401 : Int) = (s1 : Int) + (s2 : Int) by omega]; exact heap_set HG1.out 1 (.int .i64 ((s1 : Int) + (s2 : Int))))
theorem add_any (q : Nat) (acc : List Re) (x : Re) (v : List Value) (w0 w : World) (G : Nat → Prop) (h : LsAt w0 q acc) (hf : Fr G w0 w) (hG : ∀ k, G k → k < q) (hx : PtAt (New w0 w) w v x) :
    Calls Try.prog 31 #[.pointer (some ⟨q, 0, none⟩), ptV v x] w fun e w' => e = .returned (.tuple #[]) ∧ LsAt w' q (acc ++ [x]) ∧ Fr (fun k => q ≤ k) w w' := by
  by_cases hs : szs acc + x.sz ≤ 400
  · exact add_small q acc x v w0 w G h hf hG hx hs
  · exact add_big q acc x v w0 w G h hf hG hx (by omega)
end Go.Proofs.Ytkjiobbkbhmijaa.U
