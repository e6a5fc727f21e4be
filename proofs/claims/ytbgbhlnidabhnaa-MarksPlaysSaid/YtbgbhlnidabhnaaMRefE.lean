/-
  The document's Set.
-/
import Derived.Test.YtbgbhlnidabhnaaMRefD
namespace Go.Proofs.Ytbgbhlnidabhnaa.U
open Go.RowKit
set_option linter.unusedVariables false
set_option linter.unusedSimpArgs false
set_option maxRecDepth 100000

theorem infoMk : (Try.prog.info? 64).map (fun i => (i.zero, i.size, i.bytes)) = some (some (.agg #[.int .i32 0, .int .i64 0, .int .i64 0]), 3, 24) := by kernel_rfl
/-- append a mark that has just been laid -/
theorem app_mk (w : World) (B : Nat) (v : Value) (n : Nat) (xs : List (Int × Po)) (r l c : Int) (hown : w.ownsRow B 64 3 v n (mcells xs)) (hB : B ≤ w.heap.size) (hn : n ≤ 1000) :
    ∃ a' c' w', (∀ ty, (Builtin.append_ #[36, 36] ty #[v, .slice (some ⟨w.heap.size, 0, none⟩) 1 1]).run Try.prog (w.alloc (.cells #[.int .i32 r, .int .i64 l, .int .i64 c] 64)) = .ok (.slice a' (n + 1) c') w') ∧ w'.ownsRow B 64 3 (.slice a' (n + 1) c') (n + 1) (mcells (xs ++ [(r, ⟨l, c⟩)])) ∧ Below B w w' := by
  obtain ⟨i0, hi0, hz0, hz1, hz2⟩ := info_parts infoMk
  have hb0 : Below w.heap.size w (w.alloc (.cells #[.int .i32 r, .int .i64 l, .int .i64 c] 64)) := (Below.refl _ w).alloc (Nat.le_refl _) _
  obtain ⟨v', w1, hrun, hown1, hfr, hnear⟩ := run_append_own_k (P := Try.prog) (w.alloc (.cells #[.int .i32 r, .int .i64 l, .int .i64 c] 64)) B 36 64 i0 _ 3 24 Try.underlying36 hi0 hz0 hz1 hz2 rfl (by decide) v n _ (hown.alloc _) (some ⟨w.heap.size, 0, none⟩) 1 1 [.int .i32 r, .int .i64 l, .int .i64 c] rfl
    (fun _ => ⟨_, rfl, src_of (off := 0) (m := 3) (cur := [.int .i32 r, .int .i64 l, .int .i64 c]) (heap_alloc_new w _)⟩) (fun u hu => mc_one1 [(r, ⟨l, c⟩)] u (by simpa [mcells, mcell] using hu)) (by unfold maxLen; omega) (by omega) (by simp; omega)
  obtain ⟨a', c', rfl⟩ := own_slice hown1
  refine ⟨a', c', w1, hrun, ?_, (hb0.mono hB).trans (hfr.below (by simp; omega) (fun k e => (hown.lt k e.symm).1))⟩
  rw [mc_append, mc_one]
  exact hown1
theorem RkS.setL {P : Nat → Prop} {w w3 : World} {bx : Nat} {s : Ms} (h : RkS P w bx s) (hb : Below w.heap.size w w3) {a : Option Addr} {n c : Nat} {ns : List (Int × Po)} (hr : Rc w3 a n c 3 (mcells ns)) (hin : ∀ ad, 0 < n → a = some ad → w.heap.size ≤ ad.block) :
    AfR P w (w3.setCell ⟨bx, 0, none⟩ (.slice a n c)) bx ⟨ns, s.js, s.ix⟩ := by
  have hn : n = ns.length := by have := hr.1; rw [mc_len] at this; omega
  subst hn
  obtain ⟨na, nc, ja, jc, q1, q2, q3, q4, q5, p1, p2⟩ := h.below hb
  have hbx : bx < w.heap.size := h.lt bx p1
  have hfS : Fr (fun k => k = bx) w3 (w3.setCell ⟨bx, 0, none⟩ (.slice a ns.length c)) := (Fr.refl (fun k => k = bx) w3).setCell ⟨bx, 0, none⟩ _ (fun _ => rfl)
  have hset := heap_set q1 0 (.slice a ns.length c)
  have hin2 : InF (fun k => (P k ∨ (w.heap.size ≤ k ∧ k < w3.heap.size)) ∧ k ≠ bx) a ns.length := by
    intro hp ad e
    have h1 := hin ad hp e
    obtain ⟨b, off, e2, hbl, _⟩ := hr.at_ hp
    rw [e2] at e
    cases e
    exact ⟨.inr ⟨h1, hbl⟩, by simp only at h1 ⊢; omega⟩
  refine ⟨fun k => P k ∨ (w.heap.size ≤ k ∧ k < w3.heap.size), ⟨a, c, ja, jc, ?_, hr.frF hin2 hfS (fun k hk => hk.2), hin2, q4.frF q5 hfS (fun k hk => hk.2), q5.mono (fun k hk => ⟨.inl hk.1, hk.2⟩), .inl p1, ?_⟩, (Fr.of_below P hb).trans (hfS.mono (fun y _ e => by rw [e]; exact p1)) (fun _ _ h => h), ?_⟩
  · rw [hset]
    rfl
  · rintro k (hk | hk)
    · exact Nat.lt_of_lt_of_le (p2 k hk) hfS.size
    · exact Nat.lt_of_lt_of_le hk.2 hfS.size
  · rintro k (hk | hk)
    · exact .inl hk
    · exact .inr hk.1
end Go.Proofs.Ytbgbhlnidabhnaa.U
