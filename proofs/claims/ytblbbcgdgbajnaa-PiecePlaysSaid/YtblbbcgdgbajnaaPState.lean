/-
  A table as a law sees it: its row, what is remembered, bounds; the methods' contracts in these words.
-/
import Derived.Test.YtblbbcgdgbajnaaPRefC
namespace Go.Proofs.Ytblbbcgdgbajnaa.U
open Go.RowKit
set_option linter.unusedVariables false
set_option linter.unusedSimpArgs false

/-- A table in block bt, all whose blocks are in P. -/
def TS (P : Nat → Prop) (w : World) (bt : Nat) (row : List Int) (kept : List (List Int)) (np ng : Nat) : Prop :=
  ∃ F D, TabOk w F bt D ∧ (∀ k, F k → P k) ∧ D.row = row ∧ D.kept = kept ∧ D.ps.length ≤ np ∧ D.gs.length ≤ ng

theorem TS.fr {P G : Nat → Prop} {w w' : World} {bt row kept np ng} (h : TS P w bt row kept np ng) (hf : Fr G w w') (hd : ∀ k, P k → ¬ G k) : TS P w' bt row kept np ng := by
  obtain ⟨F, D, h1, h2, h3⟩ := h
  exact ⟨F, D, h1.fr hf (fun k hk => hd k (h2 k hk)), h2, h3⟩
theorem TS.below {P : Nat → Prop} {w w' : World} {bt row kept np ng} (h : TS P w bt row kept np ng) (hb : Below w.heap.size w w') : TS P w' bt row kept np ng := h.fr (Fr.of_below (fun _ => False) hb) (fun _ _ h => h)
/-- what is new is none of its blocks -/
theorem TS.shrink {P N : Nat → Prop} {w : World} {bt row kept np ng} (h : TS P w bt row kept np ng) (hN : ∀ k, N k → w.heap.size ≤ k) : TS (fun k => P k ∧ ¬ N k) w bt row kept np ng := by
  obtain ⟨F, D, h1, h2, h3⟩ := h
  exact ⟨F, D, h1, fun k hk => ⟨h2 k hk, fun hn => by have := h1.lt k hk; have := hN k hn; omega⟩, h3⟩
theorem TS.mono {P Q : Nat → Prop} {w : World} {bt row kept np ng np' ng'} (h : TS P w bt row kept np ng) (hq : ∀ k, P k → Q k) (hn : np ≤ np') (hg : ng ≤ ng') : TS Q w bt row kept np' ng' := by
  obtain ⟨F, D, h1, h2, h3, h4, h5, h6⟩ := h
  exact ⟨F, D, h1, fun k hk => hq k (h2 k hk), h3, h4, by omega, by omega⟩
theorem TS.len {P : Nat → Prop} {w : World} {bt row kept np ng} (h : TS P w bt row kept np ng) : row.length ≤ 65536 := by
  obtain ⟨F, D, h1, h2, rfl, h4, h5, h6⟩ := h
  rw [h1.len]; exact h1.room
theorem TS.many {P : Nat → Prop} {w : World} {bt row kept np ng} (h : TS P w bt row kept np ng) : TS P w bt row kept 65536 ng := by
  obtain ⟨F, D, h1, h2, h3, h4, h5, h6⟩ := h
  exact ⟨F, D, h1, h2, h3, h4, Nat.le_trans h1.ok.count h1.room, h6⟩
theorem TS.wf {P : Nat → Prop} {w : World} {bt row kept np ng} (h : TS P w bt row kept np ng) : ∀ x ∈ row, (Lit.int .i32 x).wf = true := by
  obtain ⟨F, D, h1, h2, rfl, h4, h5, h6⟩ := h
  intro x hx
  unfold TD.row cont at hx
  simp only [List.mem_flatMap] at hx
  obtain ⟨p, _, hx⟩ := hx
  unfold Pc.runes at hx
  have hx2 := List.mem_of_mem_take (List.mem_of_mem_drop hx)
  split at hx2
  · exact h1.wf2 x hx2
  · exact h1.wf1 x hx2

theorem After.ts {w w' : World} {F P : Nat → Prop} {bt : Nat} {D : TD} {row : List Int} {kept : List (List Int)} {m g np ng : Nat} (h : After w F bt D row kept m g w') (hF : ∀ k, F k → P k) (hP : ∀ k, w.heap.size ≤ k → P k) (hn : D.ps.length ≤ np) (hg : D.gs.length ≤ ng) :
    TS P w' bt row kept (np + m) (ng + g) ∧ Fr P w w' := by
  obtain ⟨F', D', h1, h2, h3, h4, h5, h6, h7⟩ := h
  exact ⟨⟨F', D', h1, fun k hk => (h7 k hk).elim (hF k) (hP k), h2, h3, by omega, by omega⟩, h6.mono (fun k _ hk => hF k hk)⟩

def i64b (i : Int) : Prop := -9223372036854775808 ≤ i ∧ i ≤ 9223372036854775807
theorem wf_i64b {i : Int} (h : (Lit.int .i64 i).wf = true) : i64b i := wf_i64_in h

theorem ts_new (P : Nat → Prop) (a : Option Addr) (n c : Nat) (xs : List Int) (w : World) (hr : Rd .i32 w a n c xs) (hn : n ≤ 65536) (hP : ∀ k, w.heap.size ≤ k → P k) :
    Calls Try.prog 9 #[.slice a n c] w fun e w' => ∃ bt, e = .returned (.pointer (some ⟨bt, 0, none⟩)) ∧ TS P w' bt xs [] 1 0 ∧ Below w.heap.size w w' := by
  refine (new_tab a n c xs w hr hn).mono ?_
  rintro e w' ⟨bt, F, D, rfl, h1, h2, h3, h4, h5, h6, h7⟩
  exact ⟨bt, rfl, ⟨F, D, h1, fun k hk => hP k (h7 k hk), h2, h3, h4, by omega⟩, h6⟩
theorem ts_insert (P : Nat → Prop) (bt : Nat) (row : List Int) (kept : List (List Int)) (np ng : Nat) (a : Option Addr) (len cap : Nat) (xs : List Int) (i : Int) (w : World) (h : TS P w bt row kept np ng) (hP : ∀ k, w.heap.size ≤ k → P k) (hr : Rd .i32 w a len cap xs) (hi : i64b i) (hg : ng + len ≤ lim) :
    Calls Try.prog 16 #[.pointer (some ⟨bt, 0, none⟩), .int .i64 i, .slice a len cap] w fun e w' => e = .returned (.int .i64 (insM row i xs).2) ∧ TS P w' bt (insM row i xs).1 kept (np + (if (insM row i xs).2 = 0 then 2 else 0)) (ng + len) ∧ Fr P w w' := by
  obtain ⟨F, D, h1, h2, rfl, rfl, h5, h6⟩ := h
  refine (insert_tab bt F D a len cap xs i w h1 hr hi (by omega)).mono ?_
  rintro e w' ⟨rfl, hA⟩
  exact ⟨rfl, hA.ts h2 hP h5 h6⟩
theorem ts_delete (P : Nat → Prop) (bt : Nat) (row : List Int) (kept : List (List Int)) (np ng : Nat) (i n : Int) (w : World) (h : TS P w bt row kept np ng) (hP : ∀ k, w.heap.size ≤ k → P k) (hi : i64b i) (hn : i64b n) (hg : ng ≤ lim) :
    Calls Try.prog 17 #[.pointer (some ⟨bt, 0, none⟩), .int .i64 i, .int .i64 n] w fun e w' => e = .returned (.int .i64 (delM row i n).2) ∧ TS P w' bt (delM row i n).1 kept (np + (if (delM row i n).2 = 0 then 2 else 0)) ng ∧ Fr P w w' := by
  obtain ⟨F, D, h1, h2, rfl, rfl, h5, h6⟩ := h
  refine (delete_tab bt F D i n w h1 hi hn (by omega)).mono ?_
  rintro e w' ⟨rfl, hA⟩
  exact ⟨rfl, hA.ts h2 hP h5 h6⟩
theorem ts_slice (P : Nat → Prop) (bt : Nat) (row : List Int) (kept : List (List Int)) (np ng : Nat) (i n : Int) (w : World) (h : TS P w bt row kept np ng) (hi : i64b i) (hn : i64b n) (hg : ng ≤ lim) :
    Calls Try.prog 19 #[.pointer (some ⟨bt, 0, none⟩), .int .i64 i, .int .i64 n] w fun e w' => ∃ a c, e = .returned (.tuple #[.slice a (sliM row i n).1.length c, .int .i64 (sliM row i n).2]) ∧
      w'.ownsRow w.heap.size 21 1 (.slice a (sliM row i n).1.length c) (sliM row i n).1.length (ints (sliM row i n).1) ∧ Below w.heap.size w w' := by
  obtain ⟨F, D, h1, h2, rfl, rfl, h5, h6⟩ := h
  exact slice_tab bt F D i n w h1 hi hn (by omega)
theorem ts_save (P : Nat → Prop) (bt : Nat) (row : List Int) (kept : List (List Int)) (np ng : Nat) (w : World) (h : TS P w bt row kept np ng) (hP : ∀ k, w.heap.size ≤ k → P k) (hk : kept.length ≤ lim) :
    Calls Try.prog 20 #[.pointer (some ⟨bt, 0, none⟩)] w fun e w' => e = .returned (.int .i64 ((kept.length : Nat) + 1 : Int)) ∧ TS P w' bt row (kept ++ [row]) np ng ∧ Fr P w w' := by
  obtain ⟨F, D, h1, h2, rfl, rfl, h5, h6⟩ := h
  refine (save_tab bt F D w h1 hk).mono ?_
  rintro e w' ⟨rfl, hA⟩
  have := hA.ts h2 hP h5 h6
  exact ⟨rfl, this⟩
theorem ts_back (P : Nat → Prop) (bt : Nat) (row : List Int) (kept : List (List Int)) (np ng : Nat) (id : Int) (w : World) (h : TS P w bt row kept np ng) (hP : ∀ k, w.heap.size ≤ k → P k) (hk : kept.length ≤ lim) :
    Calls Try.prog 21 #[.pointer (some ⟨bt, 0, none⟩), .int .i64 id] w fun e w' => e = .returned (.int .i64 (backM row kept id).2) ∧ TS P w' bt (backM row kept id).1 kept 65536 ng ∧ Fr P w w' := by
  obtain ⟨F, D, h1, h2, rfl, rfl, h5, h6⟩ := h
  refine (back_tab bt F D id w h1 hk).mono ?_
  rintro e w' ⟨rfl, F', D', k1, k2, k3, k4, k5, k6⟩
  exact ⟨rfl, ⟨F', D', k1, fun k hk => (k6 k hk).elim (h2 k) (hP k), k2, k3, Nat.le_trans k1.ok.count k1.room, by omega⟩, k5.mono (fun k _ hk => h2 k hk)⟩
theorem ts_len (P : Nat → Prop) (bt : Nat) (row : List Int) (kept : List (List Int)) (np ng : Nat) (w : World) (h : TS P w bt row kept np ng) :
    Calls Try.prog 12 #[.pointer (some ⟨bt, 0, none⟩)] w fun e w' => e = .returned (.int .i64 (row.length : Nat)) ∧ w = w' := by
  obtain ⟨F, D, h1, h2, rfl, rfl, h5, h6⟩ := h
  exact len_any bt F D w h1
theorem ts_pieces (P : Nat → Prop) (bt : Nat) (row : List Int) (kept : List (List Int)) (np ng : Nat) (w : World) (h : TS P w bt row kept np ng) :
    Calls Try.prog 18 #[.pointer (some ⟨bt, 0, none⟩)] w fun e w' => (∃ n : Nat, e = .returned (.int .i64 n) ∧ n ≤ np ∧ (n = 0 ↔ row.length = 0)) ∧ w = w' := by
  obtain ⟨F, D, h1, h2, rfl, rfl, h5, h6⟩ := h
  refine (pieces_any bt F D w h1).mono ?_
  rintro e w' ⟨rfl, rfl⟩
  exact ⟨⟨_, rfl, h5, empty_iff h1.ok⟩, rfl⟩

/-- the whole row -/
theorem ts_whole (P : Nat → Prop) (bt : Nat) (row : List Int) (kept : List (List Int)) (np ng : Nat) (w : World) (h : TS P w bt row kept np ng) (hg : ng ≤ lim) :
    Calls Try.prog 13 #[.pointer (some ⟨bt, 0, none⟩)] w fun e w' => ∃ a c, e = .returned (.tuple #[.slice a row.length c, .bool true]) ∧ w'.ownsRow w.heap.size 21 1 (.slice a row.length c) row.length (ints row) ∧ Below w.heap.size w w' := by
  have hl := h.len
  have hs : sliM row 0 (row.length : Nat) = (row, 0) := by
    unfold sliM
    rw [hasB_iff.2 ⟨by omega, by omega, by omega⟩]
    simp
  have hc := ts_slice P bt row kept np ng 0 (row.length : Nat) w h (by unfold i64b; omega) (by unfold i64b; omega) hg
  rw [hs] at hc
  have HC := Lib.hid hc
  have HL := Lib.hid (ts_len P bt row kept np ng w h)
  clear hc h hs
  go_enter Try.func13, Try.ntmps13
  go_wp2_with (first
    | (go_at_call 12; refine HL.out.mono ?_; rintro e w' ⟨rfl, rfl⟩)
    | (go_at_call 19; refine HC.out.mono ?_; rintro e w1 ⟨a1, c1, rfl, ho, hb⟩))
  go_ret2
  exact ⟨_, _, rfl, ho, hb⟩
end Go.Proofs.Ytblbbcgdgbajnaa.U
