/-
  The document's rows of parts that are being made; a part in its box.
-/
import Derived.Test.YtkjiobbkbhmijaaRfPcsP
namespace Go.Proofs.Ytkjiobbkbhmijaa.U
open Go.RowKit
set_option linter.unusedVariables false
set_option linter.unusedSimpArgs false
set_option maxRecDepth 100000

/-- blocks from B on, apart from a row's own -/
def Lb (w : World) (B : Nat) (a : Option Addr) (k : Nat) : Prop := B ≤ k ∧ k < w.heap.size ∧ ∀ ad, a = some ad → k ≠ ad.block
/-- a row of parts -/
def RowN (w : World) (B : Nat) (a : Option Addr) (n c : Nat) (acc : List Re) : Prop :=
  n = acc.length ∧ ∃ vs, w.ownsRow B 26 7 (.slice a n c) n vs ∧ PsAt (Lb w B a) w vs acc
theorem RowN.fr {F : Nat → Prop} {w w' : World} {B n c : Nat} {a : Option Addr} {acc : List Re} (h : RowN w B a n c acc) (hf : Fr F w w') (hF : ∀ k, F k → k < B ∨ w.heap.size ≤ k) : RowN w' B a n c acc := by
  obtain ⟨h0, vs, h1, h2⟩ := h
  refine ⟨h0, vs, own_fr h1 hf (fun k hk e => by have := (h1.lt k hk); have := hF k e; omega), ?_⟩
  exact PsAt.mono (fun k hk => ⟨hk.1, by have := hf.size; have := hk.2.1; omega, hk.2.2⟩) acc (PsAt.frF hf (fun k hk e => by have := hF k e; have := hk.1; have := hk.2.1; omega) acc h2)
theorem RowN.nil (w : World) (B : Nat) : RowN w B none 0 0 [] := ⟨rfl, [], World.ownsRow_nil _ _ _ _, PsAt.nil _ _⟩
theorem RowN.app {w : World} {B n c : Nat} {a : Option Addr} {acc : List Re} (h : RowN w B a n c acc) (hB : B ≤ w.heap.size) (hn : n ≤ 100000) {G : Nat → Prop} {v : List Value} {x : Re} (hx : ReAt G w v x) (hG : ∀ k, G k → Lb w B a k) :
    ∃ a' c' w', (∀ ty, (Builtin.append_ #[24, 24] ty #[.slice a n c, .slice (some ⟨w.heap.size, 0, none⟩) 1 1]).run Try.prog (w.alloc (.cells v.toArray 26)) = .ok (.slice a' (n + 1) c') w') ∧ RowN w' B a' (n + 1) c' (acc ++ [x]) ∧ Fr (fun k => B ≤ k) w w' := by
  obtain ⟨h0, vs, h1, h2⟩ := h
  obtain ⟨a', c', w', hrun, hown, hf, hnear⟩ := app_re w B (.slice a n c) n vs v hx.rev7.len hx.rev7.one1 h1 hB hn
  have hsz := hf.size
  refine ⟨a', c', w', hrun, ⟨by rw [List.length_append, h0]; rfl, _, hown, ?_⟩, hf.mono (fun k _ e => (h1.lt k e.symm).1)⟩
  have hL : ∀ k, Lb w B a k → Lb w' B a' k := by
    rintro k ⟨k1, k2, k3⟩
    refine ⟨k1, by omega, fun ad e ek => ?_⟩
    have h3 := (own_ad hown).1 ad e
    rcases hnear _ h3 with h4 | h4
    · obtain ⟨ad2, e2, e3⟩ := (own_ad h1).2 _ h4
      exact k3 ad2 e2 (by omega)
    · omega
  have hN : ∀ k, Lb w B a k → ¬ some k = (Value.slice a n c).ownBlock := by
    rintro k ⟨k1, k2, k3⟩ e
    obtain ⟨ad2, e2, e3⟩ := (own_ad h1).2 k e.symm
    exact k3 ad2 e2 e3.symm
  exact PsAt.append acc (PsAt.mono hL acc (PsAt.frF hf hN acc h2)) (PsAt.one (ReAt.mono (fun k hk => hL k (hG k hk)) x (ReAt.frF hf (fun k hk => hN k (hG k hk)) x hx)))
/-- a row of which only the memory is known -/
theorem RowN.appJ {w : World} {B n c : Nat} {a : Option Addr} {acc : List Re} (h : RowN w B a n c acc) (hB : B ≤ w.heap.size) (hn : n ≤ 100000) {v : List Value} (hv : Rev7 v) :
    ∃ a' c' w' vs, (∀ ty, (Builtin.append_ #[24, 24] ty #[.slice a n c, .slice (some ⟨w.heap.size, 0, none⟩) 1 1]).run Try.prog (w.alloc (.cells v.toArray 26)) = .ok (.slice a' (n + 1) c') w') ∧ w'.ownsRow B 26 7 (.slice a' (n + 1) c') (n + 1) vs ∧ (n + 1 = 1 → Rev7 vs) ∧ Fr (fun k => B ≤ k) w w' := by
  obtain ⟨h0, vs, h1, h2⟩ := h
  obtain ⟨a', c', w', hrun, hown, hf, hnear⟩ := app_re w B (.slice a n c) n vs v hv.len hv.one1 h1 hB hn
  refine ⟨a', c', w', _, hrun, hown, fun e => ?_, hf.mono (fun k _ e => (h1.lt k e.symm).1)⟩
  have h3 : acc = [] := List.eq_nil_of_length_eq_zero (by omega)
  subst h3
  unfold PsAt at h2
  subst h2
  exact hv
/-- the first part of a row, cell by cell -/
theorem row_first {w : World} {B n c : Nat} {a : Option Addr} {vs v : List Value} (h : w.ownsRow B 26 7 (.slice a n c) n vs) (hn : 0 < n) (hv : ∀ j, j < 7 → vs[j]? = v[j]?) (h7 : Rev7 v) : ∃ g, a = some ⟨g, 0, none⟩ ∧ B ≤ g ∧ g < w.heap.size ∧ ∀ j u, v[j]? = some u → w.cell? ⟨g, j, none⟩ = some u := by
  obtain ⟨g, rfl⟩ := own_some h hn
  obtain ⟨cur, hg, hcl, htk, hnc, hcm, hBg, hlt⟩ := own_cur h
  refine ⟨g, rfl, hBg, heap_lt hg, fun j u hu => ?_⟩
  have hj : j < 7 := by rw [← h7.len]; exact (List.getElem?_eq_some_iff.1 hu).1
  rw [cell_row hg]
  rw [← hv j hj] at hu
  have h3 := congrArg (fun l : List Value => l[j]?) htk
  simp only [List.getElem?_take] at h3
  rw [if_pos (by omega)] at h3
  rw [← hu, ← h3]
  simp
theorem RowN.first {w : World} {B n c : Nat} {a : Option Addr} {x : Re} {acc : List Re} (h : RowN w B a n c (x :: acc)) : ∃ g k4 r4 sa4 sn4 sc4 nt4 l4 h4 pa4 pn4 pc4, a = some ⟨g, 0, none⟩ ∧ g < w.heap.size ∧ ReAt (Lb w B a) w [.int .i64 k4, .int .i32 r4, .slice sa4 sn4 sc4, .bool nt4, .int .i64 l4, .int .i64 h4, .slice pa4 pn4 pc4] x ∧ ∀ j u, [Value.int .i64 k4, .int .i32 r4, .slice sa4 sn4 sc4, .bool nt4, .int .i64 l4, .int .i64 h4, .slice pa4 pn4 pc4][j]? = some u → w.cell? ⟨g, j, none⟩ = some u := by
  obtain ⟨h0, vs, h1, h2⟩ := h
  obtain ⟨v, hv, hc⟩ := PsAt.get _ 0 h2 (x := x) rfl
  obtain ⟨g, rfl, hBg, hg, hcell⟩ := row_first h1 (by rw [h0]; simp) (fun j hj => by have := hc j hj; rw [Nat.zero_mul, Nat.zero_add] at this; exact this) hv.rev7
  obtain ⟨k4, r4, sa4, sn4, sc4, nt4, l4, h4, pa4, pn4, pc4, rfl⟩ := hv.rev7
  exact ⟨g, k4, r4, sa4, sn4, sc4, nt4, l4, h4, pa4, pn4, pc4, rfl, hg, hv, hcell⟩
/-- a row as the parts of one -/
theorem RowN.join {w : World} {B n c : Nat} {a : Option Addr} {acc : List Re} (h : RowN w B a n c acc) (k : Int) : ReAt (fun j => B ≤ j ∧ j < w.heap.size) w [.int .i64 k, .int .i32 0, .slice none 0 0, .bool false, .int .i64 0, .int .i64 0, .slice a n c] (.mk k 0 [] false 0 0 acc) := by
  obtain ⟨h0, vs, h1, h2⟩ := h
  subst h0
  unfold ReAt
  exact ⟨none, 0, a, c, rfl, Rc.none0 _ _, InF.zero _ _, vs, Rc.own h1, InF.own h1 (fun k hk => h1.lt k hk), PsAt.mono (fun k hk => ⟨hk.1, hk.2.1⟩) acc h2⟩
/-- how much is left to read, 0 behind a fault -/
def msR (w : World) (br q : Nat) : Nat := match w.cell? ⟨br, 4, none⟩, w.cell? ⟨br, 1, none⟩ with
  | some (.int _ e), some (.int _ i) => if e = 0 then q + 1 - i.toNat else 0
  | _, _ => 0
theorem RfN.ms {w : World} {br : Nat} {p l : List Int} {n o : Nat} (h : RfN w br p l n o) : msR w br p.length = l.length + 1 := by
  obtain ⟨a, cap, i, e0, e1, e2, e3, e4, fz, hr, hs, hl, hi, hn, hp, ho⟩ := h.cells
  unfold msR
  rw [e4, e1, hl, List.length_drop]
  simp
  omega
theorem RfX.ms {w : World} {br q : Nat} {p : List Int} {c : Int} (h : RfX w br p c) (hc : c ≠ 0) : msR w br q = 0 := by
  obtain ⟨i, n, o, h⟩ := h
  obtain ⟨a, cap, hlk⟩ := h.look
  obtain ⟨e0, e1, e2, e3, e4, -⟩ := hlk (fun _ => False) w (Fr.refl _ _) (fun _ h => h.elim)
  unfold msR
  rw [e4, e1]
  simp [hc]
theorem RfX.cell4 {w : World} {br : Nat} {p : List Int} {c : Int} (h : RfX w br p c) : w.cell? ⟨br, 4, none⟩ = some (.int .i64 c) := by
  obtain ⟨i, n, o, h⟩ := h
  obtain ⟨a, cap, hlk⟩ := h.look
  exact (hlk (fun _ => False) w (Fr.refl _ _) (fun _ h => h.elim)).2.2.2.2.1
end Go.Proofs.Ytkjiobbkbhmijaa.U
