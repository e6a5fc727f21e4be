/-
  A table and the document's table beside it: neither touches the other.
-/
import Derived.Test.YtblbbcgdgbajnaaPBounds
namespace Go.Proofs.Ytblbbcgdgbajnaa.U
open Go.RowKit
set_option linter.unusedVariables false
set_option linter.unusedSimpArgs false

/-- the two tables; the blocks Q belong to neither -/
def Both (B : Nat) (Q : Nat → Prop) (w : World) (bt bx : Nat) (row : List Int) (kept : List (List Int)) (L : List Int) (S : List (List Int)) (ng : Nat) : Prop :=
  ∃ G : Nat → Prop, (∀ k, G k → B ≤ k ∧ ¬ Q k) ∧ TS (fun k => B ≤ k ∧ ¬ G k ∧ ¬ Q k) w bt row kept 65536 ng ∧ RefOk w G bx L S

section
variable {B : Nat} {Q : Nat → Prop} {w w' : World} {bt bx : Nat} {row : List Int} {kept : List (List Int)} {L : List Int} {S : List (List Int)} {ng : Nat}

theorem Both.fr {F : Nat → Prop} (h : Both B Q w bt bx row kept L S ng) (hf : Fr F w w') (hd : ∀ k, F k → Q k) : Both B Q w' bt bx row kept L S ng := by
  obtain ⟨G, hG, T, R⟩ := h
  exact ⟨G, hG, T.fr hf (fun k hp hF => hp.2.2 (hd k hF)), R.fr hf (fun k hk hF => (hG k hk).2 (hd k hF))⟩
theorem Both.below (h : Both B Q w bt bx row kept L S ng) (hb : Below w.heap.size w w') : Both B Q w' bt bx row kept L S ng := h.fr (Fr.of_below (fun _ => False) hb) (fun _ h => h.elim)
theorem Both.more {N : Nat → Prop} (h : Both B Q w bt bx row kept L S ng) (hN : ∀ k, N k → w.heap.size ≤ k) (hb : Below w.heap.size w w') : Both B (fun k => Q k ∨ N k) w' bt bx row kept L S ng := by
  obtain ⟨G, hG, T, R⟩ := h
  exact ⟨G, fun k hk => ⟨(hG k hk).1, fun h => h.elim (hG k hk).2 (fun hn => by have := hN k hn; have := R.lt k hk; omega)⟩,
    ((T.shrink hN).below hb).mono (fun k hk => ⟨hk.1.1, hk.1.2.1, fun h => h.elim hk.1.2.2 hk.2⟩) (Nat.le_refl _) (Nat.le_refl _), R.below hb⟩
theorem Both.less {Q' : Nat → Prop} (h : Both B Q w bt bx row kept L S ng) (hq : ∀ k, Q' k → Q k) : Both B Q' w bt bx row kept L S ng := by
  obtain ⟨G, hG, T, R⟩ := h
  exact ⟨G, fun k hk => ⟨(hG k hk).1, fun h => (hG k hk).2 (hq k h)⟩, T.mono (fun k hk => ⟨hk.1, hk.2.1, fun h => hk.2.2 (hq k h)⟩) (Nat.le_refl _) (Nat.le_refl _), R⟩
theorem Both.mono {ng' : Nat} (h : Both B Q w bt bx row kept L S ng) (hg : ng ≤ ng') : Both B Q w bt bx row kept L S ng' := by
  obtain ⟨G, hG, T, R⟩ := h
  exact ⟨G, hG, T.mono (fun _ h => h) (Nat.le_refl _) hg, R⟩
theorem Both.lenT (h : Both B Q w bt bx row kept L S ng) : row.length ≤ 65536 := by obtain ⟨G, hG, T, R⟩ := h; exact T.len
theorem Both.lenX (h : Both B Q w bt bx row kept L S ng) : L.length ≤ 65536 := by obtain ⟨G, hG, T, R⟩ := h; exact R.room
theorem Both.wfX (h : Both B Q w bt bx row kept L S ng) : ∀ x ∈ L, (Lit.int .i32 x).wf = true := by obtain ⟨G, hG, T, R⟩ := h; exact R.wf
theorem Both.x {G : Nat → Prop} {L' : List Int} {S' : List (List Int)} (hB : B ≤ w.heap.size) (hQ : ∀ k, Q k → k < w.heap.size) (hG : ∀ k, G k → B ≤ k ∧ ¬ Q k) (T : TS (fun k => B ≤ k ∧ ¬ G k ∧ ¬ Q k) w bt row kept 65536 ng) (A : AfterX w G bx L' S' w') :
    Both B Q w' bt bx row kept L' S' ng ∧ Fr (fun k => B ≤ k ∧ ¬ Q k) w w' := by
  obtain ⟨G', R', hf, hG'⟩ := A
  refine ⟨⟨G', fun k hk => ?_, ?_, R'⟩, hf.mono (fun k _ hk => hG k hk)⟩
  · rcases hG' k hk with e | e
    · exact hG k e
    · exact ⟨by omega, fun q => by have := hQ k q; omega⟩
  · refine ((T.shrink (N := fun k => w.heap.size ≤ k) (fun k hk => hk)).fr hf (fun k hp hg => hp.1.2.1 hg)).mono (fun k hk => ⟨hk.1.1, fun h => ?_, hk.1.2.2⟩) (Nat.le_refl _) (Nat.le_refl _)
    exact (hG' k h).elim hk.1.2.1 hk.2

variable (hB : B ≤ w.heap.size) (hQ : ∀ k, Q k → k < w.heap.size) (h : Both B Q w bt bx row kept L S ng)
include hB hQ h
theorem both_t_ins (a : Option Addr) (len cap : Nat) (xs : List Int) (i : Int) (hr : Rd .i32 w a len cap xs) (hi : i64b i) (hg : ng + len ≤ lim) :
    Calls Try.prog 16 #[.pointer (some ⟨bt, 0, none⟩), .int .i64 i, .slice a len cap] w fun e w' => e = .returned (.int .i64 (insM row i xs).2) ∧ Both B Q w' bt bx (insM row i xs).1 kept L S (ng + len) ∧ Fr (fun k => B ≤ k ∧ ¬ Q k) w w' := by
  obtain ⟨G, hG, T, R⟩ := h
  refine (ts_insert _ bt row kept 65536 ng a len cap xs i w T (fun k hk => ⟨by omega, fun g => by have := R.lt k g; omega, fun q => by have := hQ k q; omega⟩) hr hi hg).mono ?_
  rintro e w' ⟨rfl, T', hf⟩
  exact ⟨rfl, ⟨G, hG, T'.many, R.fr hf (fun k hk hp => hp.2.1 hk)⟩, hf.mono (fun k _ h => ⟨h.1, h.2.2⟩)⟩
theorem both_t_del (i n : Int) (hi : i64b i) (hn : i64b n) (hg : ng ≤ lim) :
    Calls Try.prog 17 #[.pointer (some ⟨bt, 0, none⟩), .int .i64 i, .int .i64 n] w fun e w' => e = .returned (.int .i64 (delM row i n).2) ∧ Both B Q w' bt bx (delM row i n).1 kept L S ng ∧ Fr (fun k => B ≤ k ∧ ¬ Q k) w w' := by
  obtain ⟨G, hG, T, R⟩ := h
  refine (ts_delete _ bt row kept 65536 ng i n w T (fun k hk => ⟨by omega, fun g => by have := R.lt k g; omega, fun q => by have := hQ k q; omega⟩) hi hn hg).mono ?_
  rintro e w' ⟨rfl, T', hf⟩
  exact ⟨rfl, ⟨G, hG, T'.many, R.fr hf (fun k hk hp => hp.2.1 hk)⟩, hf.mono (fun k _ h => ⟨h.1, h.2.2⟩)⟩
theorem both_t_save (hk : kept.length ≤ lim) :
    Calls Try.prog 20 #[.pointer (some ⟨bt, 0, none⟩)] w fun e w' => e = .returned (.int .i64 ((kept.length : Nat) + 1 : Int)) ∧ Both B Q w' bt bx row (kept ++ [row]) L S ng ∧ Fr (fun k => B ≤ k ∧ ¬ Q k) w w' := by
  obtain ⟨G, hG, T, R⟩ := h
  refine (ts_save _ bt row kept 65536 ng w T (fun k hk => ⟨by omega, fun g => by have := R.lt k g; omega, fun q => by have := hQ k q; omega⟩) hk).mono ?_
  rintro e w' ⟨rfl, T', hf⟩
  exact ⟨rfl, ⟨G, hG, T', R.fr hf (fun k hk hp => hp.2.1 hk)⟩, hf.mono (fun k _ h => ⟨h.1, h.2.2⟩)⟩
theorem both_t_back (id : Int) (hk : kept.length ≤ lim) :
    Calls Try.prog 21 #[.pointer (some ⟨bt, 0, none⟩), .int .i64 id] w fun e w' => e = .returned (.int .i64 (backM row kept id).2) ∧ Both B Q w' bt bx (backM row kept id).1 kept L S ng ∧ Fr (fun k => B ≤ k ∧ ¬ Q k) w w' := by
  obtain ⟨G, hG, T, R⟩ := h
  refine (ts_back _ bt row kept 65536 ng id w T (fun k hk => ⟨by omega, fun g => by have := R.lt k g; omega, fun q => by have := hQ k q; omega⟩) hk).mono ?_
  rintro e w' ⟨rfl, T', hf⟩
  exact ⟨rfl, ⟨G, hG, T', R.fr hf (fun k hk hp => hp.2.1 hk)⟩, hf.mono (fun k _ h => ⟨h.1, h.2.2⟩)⟩
theorem both_x_ins (a : Option Addr) (len cap : Nat) (xs : List Int) (i : Int) (hr : Rd .i32 w a len cap xs) :
    Calls Try.prog 24 #[.pointer (some ⟨bx, 0, none⟩), .int .i64 i, .slice a len cap] w fun e w' => e = .returned (.int .i64 (insM L i xs).2) ∧ Both B Q w' bt bx row kept (insM L i xs).1 S ng ∧ Fr (fun k => B ≤ k ∧ ¬ Q k) w w' := by
  obtain ⟨G, hG, T, R⟩ := h
  refine (rIns bx G L S a len cap xs i w R hr).mono ?_
  rintro e w' ⟨rfl, A⟩
  exact ⟨rfl, Both.x hB hQ hG T A⟩
theorem both_x_del (i n : Int) (hi : i64b i) :
    Calls Try.prog 25 #[.pointer (some ⟨bx, 0, none⟩), .int .i64 i, .int .i64 n] w fun e w' => e = .returned (.int .i64 (delM L i n).2) ∧ Both B Q w' bt bx row kept (delM L i n).1 S ng ∧ Fr (fun k => B ≤ k ∧ ¬ Q k) w w' := by
  obtain ⟨G, hG, T, R⟩ := h
  refine (rDel bx G L S i n w R hi).mono ?_
  rintro e w' ⟨rfl, A⟩
  exact ⟨rfl, Both.x hB hQ hG T A⟩
theorem both_x_back (id : Int) (hs : S.length ≤ lim) (hr : ∀ x ∈ S, x.length ≤ 65536) :
    Calls Try.prog 28 #[.pointer (some ⟨bx, 0, none⟩), .int .i64 id] w fun e w' => e = .returned (.int .i64 (backM L S id).2) ∧ Both B Q w' bt bx row kept (backM L S id).1 S ng ∧ Fr (fun k => B ≤ k ∧ ¬ Q k) w w' := by
  obtain ⟨G, hG, T, R⟩ := h
  refine (rBack bx G L S id w R hs hr).mono ?_
  rintro e w' ⟨rfl, A⟩
  exact ⟨rfl, Both.x hB hQ hG T A⟩
end
end Go.Proofs.Ytblbbcgdgbajnaa.U
