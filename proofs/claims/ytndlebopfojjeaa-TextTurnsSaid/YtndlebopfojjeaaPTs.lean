/-
  A table as a law sees it: its row, what is remembered, bounds; the contracts of New, Insert, Delete, Slice, Len in these words.
-/
import Derived.Test.YtndlebopfojjeaaPGen
namespace Go.Proofs.Ytndlebopfojjeaa.U
open Go.RowKit
set_option linter.unusedVariables false
set_option linter.unusedSimpArgs false
set_option maxRecDepth 100000

/-- A table in block bt, all whose blocks are in P. -/
def TS (P : Nat → Prop) (w : World) (bt : Nat) (row : List Int) (kept : List (List Int)) (np ng : Nat) : Prop :=
  ∃ F D, TabOk w F bt D ∧ (∀ k, F k → P k) ∧ D.row = row ∧ D.kept = kept ∧ D.ps.length ≤ np ∧ D.gs.length ≤ ng

theorem TS.fr {P G : Nat → Prop} {w w' : World} {bt row kept np ng} (h : TS P w bt row kept np ng) (hf : Fr G w w') (hd : ∀ k, P k → ¬ G k) : TS P w' bt row kept np ng := by
  obtain ⟨F, D, h1, h2, h3⟩ := h
  exact ⟨F, D, h1.fr hf (fun k hk => hd k (h2 k hk)), h2, h3⟩
theorem TS.below {P : Nat → Prop} {w w' : World} {bt row kept np ng} (h : TS P w bt row kept np ng) (hb : Below w.heap.size w w') : TS P w' bt row kept np ng := h.fr (Fr.of_below (fun _ => False) hb) (fun _ _ h => h)
/-- what is new is none of its blocks -/
theorem TS.shrink {P N : Nat → Prop} {w : World} {bt row kept np ng} (h : TS P w bt row kept np ng) (hN : ∀ k, N k → w.heap.size ≤ k) : TS (fun k => P k ∧ ¬ N k) w bt row kept np ng := by
  obtain ⟨F, D, h1, h2, h3⟩ := h
  exact ⟨F, D, h1, fun k hk => ⟨h2 k hk, fun hn => by have := h1.lt k hk; have := hN k hn; omega⟩, h3⟩
theorem TS.mono {P Q : Nat → Prop} {w : World} {bt row kept np ng np' ng'} (h : TS P w bt row kept np ng) (hq : ∀ k, P k → Q k) (hn : np ≤ np') (hg : ng ≤ ng') : TS Q w bt row kept np' ng' := by
  obtain ⟨F, D, h1, h2, h3, h4, h5, h6⟩ := h
  exact ⟨F, D, h1, fun k hk => hq k (h2 k hk), h3, h4, by omega, by omega⟩
theorem TS.len {P : Nat → Prop} {w : World} {bt row kept np ng} (h : TS P w bt row kept np ng) : row.length ≤ 65536 := by
  obtain ⟨F, D, h1, h2, rfl, h4, h5, h6⟩ := h
  rw [h1.len]; exact h1.room
theorem TS.many {P : Nat → Prop} {w : World} {bt row kept np ng} (h : TS P w bt row kept np ng) : TS P w bt row kept 65536 ng := by
  obtain ⟨F, D, h1, h2, h3, h4, h5, h6⟩ := h
  exact ⟨F, D, h1, h2, h3, h4, Nat.le_trans h1.ok.count h1.room, h6⟩
theorem TS.wf {P : Nat → Prop} {w : World} {bt row kept np ng} (h : TS P w bt row kept np ng) : ∀ x ∈ row, (Lit.int .i32 x).wf = true := by
  obtain ⟨F, D, h1, h2, rfl, h4, h5, h6⟩ := h
  intro x hx
  unfold TD.row cont at hx
  simp only [List.mem_flatMap] at hx
  obtain ⟨p, _, hx⟩ := hx
  unfold Pc.runes at hx
  have hx2 := List.mem_of_mem_take (List.mem_of_mem_drop hx)
  split at hx2
  · exact h1.wf2 x hx2
  · exact h1.wf1 x hx2

theorem After.ts {w w' : World} {F P : Nat → Prop} {bt : Nat} {D : TD} {row : List Int} {kept : List (List Int)} {m g np ng : Nat} (h : After w F bt D row kept m g w') (hF : ∀ k, F k → P k) (hP : ∀ k, w.heap.size ≤ k → P k) (hn : D.ps.length ≤ np) (hg : D.gs.length ≤ ng) :
    TS P w' bt row kept (np + m) (ng + g) ∧ Fr P w w' := by
  obtain ⟨F', D', h1, h2, h3, h4, h5, h6, h7⟩ := h
  exact ⟨⟨F', D', h1, fun k hk => (h7 k hk).elim (hF k) (hP k), h2, h3, by omega, by omega⟩, h6.mono (fun k _ hk => hF k hk)⟩

def i64b (i : Int) : Prop := -9223372036854775808 ≤ i ∧ i ≤ 9223372036854775807
theorem wf_i64b {i : Int} (h : (Lit.int .i64 i).wf = true) : i64b i := wf_i64_in h

theorem ts_new (P : Nat → Prop) (a : Option Addr) (n c : Nat) (xs : List Int) (w : World) (hr : Rd .i32 w a n c xs) (hn : n ≤ 65536) (hP : ∀ k, w.heap.size ≤ k → P k) :
    Calls Try.prog 42 #[.slice a n c] w fun e w' => ∃ bt, e = .returned (.pointer (some ⟨bt, 0, none⟩)) ∧ TS P w' bt xs [] 1 0 ∧ Below w.heap.size w w' := by
  refine (new_tab a n c xs w hr hn).mono ?_
  rintro e w' ⟨bt, F, D, rfl, h1, h2, h3, h4, h5, h6, h7⟩
  exact ⟨bt, rfl, ⟨F, D, h1, fun k hk => hP k (h7 k hk), h2, h3, h4, by omega⟩, h6⟩
theorem ts_insert (P : Nat → Prop) (bt : Nat) (row : List Int) (kept : List (List Int)) (np ng : Nat) (a : Option Addr) (len cap : Nat) (xs : List Int) (i : Int) (w : World) (h : TS P w bt row kept np ng) (hP : ∀ k, w.heap.size ≤ k → P k) (hr : Rd .i32 w a len cap xs) (hi : i64b i) (hg : ng + len ≤ lim) :
    Calls Try.prog 104 #[.pointer (some ⟨bt, 0, none⟩), .int .i64 i, .slice a len cap] w fun e w' => e = .returned (.int .i64 (insM row i xs).2) ∧ TS P w' bt (insM row i xs).1 kept (np + (if (insM row i xs).2 = 0 then 2 else 0)) (ng + len) ∧ Fr P w w' := by
  obtain ⟨F, D, h1, h2, rfl, rfl, h5, h6⟩ := h
  refine (insert_tab bt F D a len cap xs i w h1 hr hi (by omega)).mono ?_
  rintro e w' ⟨rfl, hA⟩
  exact ⟨rfl, hA.ts h2 hP h5 h6⟩
theorem ts_delete (P : Nat → Prop) (bt : Nat) (row : List Int) (kept : List (List Int)) (np ng : Nat) (i n : Int) (w : World) (h : TS P w bt row kept np ng) (hP : ∀ k, w.heap.size ≤ k → P k) (hi : i64b i) (hn : i64b n) (hg : ng ≤ lim) :
    Calls Try.prog 103 #[.pointer (some ⟨bt, 0, none⟩), .int .i64 i, .int .i64 n] w fun e w' => e = .returned (.int .i64 (delM row i n).2) ∧ TS P w' bt (delM row i n).1 kept (np + (if (delM row i n).2 = 0 then 2 else 0)) ng ∧ Fr P w w' := by
  obtain ⟨F, D, h1, h2, rfl, rfl, h5, h6⟩ := h
  refine (delete_tab bt F D i n w h1 hi hn (by omega)).mono ?_
  rintro e w' ⟨rfl, hA⟩
  exact ⟨rfl, hA.ts h2 hP h5 h6⟩
theorem ts_slice (P : Nat → Prop) (bt : Nat) (row : List Int) (kept : List (List Int)) (np ng : Nat) (i n : Int) (w : World) (h : TS P w bt row kept np ng) (hi : i64b i) (hn : i64b n) (hg : ng ≤ lim) :
    Calls Try.prog 106 #[.pointer (some ⟨bt, 0, none⟩), .int .i64 i, .int .i64 n] w fun e w' => ∃ a c, e = .returned (.tuple #[.slice a (sliM row i n).1.length c, .int .i64 (sliM row i n).2]) ∧
      w'.ownsRow w.heap.size 21 1 (.slice a (sliM row i n).1.length c) (sliM row i n).1.length (ints (sliM row i n).1) ∧ Below w.heap.size w w' := by
  obtain ⟨F, D, h1, h2, rfl, rfl, h5, h6⟩ := h
  exact slice_tab bt F D i n w h1 hi hn (by omega)
theorem ts_len (P : Nat → Prop) (bt : Nat) (row : List Int) (kept : List (List Int)) (np ng : Nat) (w : World) (h : TS P w bt row kept np ng) :
    Calls Try.prog 105 #[.pointer (some ⟨bt, 0, none⟩)] w fun e w' => e = .returned (.int .i64 (row.length : Nat)) ∧ w = w' := by
  obtain ⟨F, D, h1, h2, rfl, rfl, h5, h6⟩ := h
  exact len_any bt F D w h1
end Go.Proofs.Ytndlebopfojjeaa.U
