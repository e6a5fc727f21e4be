/-
  A deed with both tables: put in, taken out, gone back.
-/
import Derived.Test.YtblbbcgdgbajnaaPBoth
import Derived.Deep.RegionHeld3
namespace Go.Proofs.Ytblbbcgdgbajnaa.U
open Go.RowKit
set_option linter.unusedVariables false
set_option linter.unusedSimpArgs false

/-- a row of runes of our own, whatever lies in it -/
def Mine (w : World) (v : Value) (ll : Nat) : Prop := ∀ g, v.ownBlock = some g → ∃ cur : Array Value, w.heap[g]? = some (.cells cur 21 (0, 0)) ∧ ll ≤ cur.size
theorem Mine.of_own {w : World} {B : Nat} {a : Option Addr} {n c : Nat} {xs : List Value} (h : w.ownsRow B 21 1 (.slice a n c) n xs) : Mine w (.slice a n c) n := by
  intro g hg
  rcases h.2 with ⟨hv, _⟩ | ⟨g', cap', cur, hv, hb, hgg, hnc, hcm, hcs, htake⟩
  · injection hv with e1
    subst e1
    cases hg
  · injection hv with e1 e2 e3
    subst e1 e3
    obtain rfl : g' = g := by injection hg
    exact ⟨_, hgg, by first | omega | (simp at *; omega)⟩
theorem Mine.fr {F : Nat → Prop} {w w' : World} {v : Value} {n : Nat} (h : Mine w v n) (hf : Fr F w w') (hd : ∀ k, v.ownBlock = some k → ¬ F k) : Mine w' v n := by
  intro g hg
  obtain ⟨cur, h1, h2⟩ := h g hg
  exact ⟨cur, (hf.block g (heap_lt h1) (hd g hg)).trans h1, h2⟩
theorem Mine.set {w : World} {g n c j : Nat} {u : Value} (h : Mine w (.slice (some ⟨g, 0, none⟩) n c) n) : Mine (w.setCell ⟨g, j, none⟩ u) (.slice (some ⟨g, 0, none⟩) n c) n := by
  intro k hk
  simp [Value.ownBlock] at hk
  subst hk
  obtain ⟨cur, h1, h2⟩ := h g rfl
  exact ⟨_, heap_set h1 j u, by simpa using h2⟩
theorem Mine.get {w : World} {g n c j : Nat} (h : Mine w (.slice (some ⟨g, 0, none⟩) n c) n) (hj : j < n) : (∃ u, w.cell? ⟨g, j, none⟩ = some u) ∧ w.frozen? ⟨g, j, none⟩ = false ∧ g < w.heap.size := by
  obtain ⟨cur, h1, h2⟩ := h g rfl
  exact ⟨⟨_, (cell_row h1 j).trans (Array.getElem?_eq_getElem (by omega))⟩, frozen_row h1 j, heap_lt h1⟩

set_option maxRecDepth 100000 in
set_option maxHeartbeats 2000000 in
theorem do_del (B : Nat) (Q : Nat → Prop) (w : World) (bt bx : Nat) (row : List Int) (kept : List (List Int)) (L : List Int) (S : List (List Int)) (ng : Nat) (hB : B ≤ w.heap.size) (hQ : ∀ k, Q k → k < w.heap.size) (h : Both B Q w bt bx row kept L S ng)
    (p n : Int) (al : Option Addr) (ll cl : Nat) (hp : i64b p) (hn : i64b n) (hg : ng ≤ lim) :
    Calls Try.prog 11 #[.pointer (some ⟨bt, 0, none⟩), .pointer (some ⟨bx, 0, none⟩), .agg #[.int .i64 1, .int .i64 p, .int .i64 n, .slice al ll cl]] w fun e w' => (∃ b, e = .returned (.bool b) ∧ ((delM row p n).2 = (delM L p n).2 → b = true)) ∧ Both B Q w' bt bx (delM row p n).1 kept (delM L p n).1 S ng ∧ Fr (fun k => B ≤ k ∧ ¬ Q k) w w' := by
  obtain ⟨wb, hwb⟩ : ∃ wb, w.alloc (.cells #[.int .i64 1, .int .i64 p, .int .i64 n, .slice al ll cl] 29) = wb := ⟨_, rfl⟩
  have hbl : Below w.heap.size w wb := by rw [← hwb]; exact (Below.refl _ _).alloc (Nat.le_refl _) _
  have hsz : wb.heap.size = w.heap.size + 1 := by rw [← hwb]; exact asz _ _
  have hcell : wb.heap[w.heap.size]? = some (.cells #[.int .i64 1, .int .i64 p, .int .i64 n, .slice al ll cl] 29 (0, 0)) := by rw [← hwb]; exact heap_alloc_new w _
  have HH := Lib.hid (h.more (N := fun k => k = w.heap.size) (fun k hk => by omega) hbl)
  have hQ' : ∀ k, (Q k ∨ k = w.heap.size) → k < wb.heap.size := fun k hk => by rcases hk with e | e; have := hQ k e; omega; omega
  have HQ := Lib.hid hQ'
  have HF : Hid (Fr (fun k => B ≤ k ∧ ¬ Q k) w wb) := Fr.of_below _ hbl
  have HQ0 := Lib.hid hQ
  have keepc : ∀ (W W' : World) (o : Obj), W.heap[w.heap.size]? = some o → Fr (fun k => B ≤ k ∧ ¬ (Q k ∨ k = w.heap.size)) W W' → W'.heap[w.heap.size]? = some o := fun W W' o h1 hf => (hf.block _ (heap_lt h1) (fun hk => hk.2 (.inr rfl))).trans h1
  obtain ⟨b, hb⟩ : ∃ b, w.heap.size = b := ⟨_, rfl⟩
  have HB := Lib.hid hB
  have HT : Hid (∀ W, Below wb.heap.size wb W → Calls Try.prog 17 #[.pointer (some ⟨bt, 0, none⟩), .int .i64 p, .int .i64 n] W fun e w' => e = .returned (.int .i64 (delM row p n).2) ∧ w'.cell? ⟨b, 1, none⟩ = some (.int .i64 p) ∧ w'.cell? ⟨b, 2, none⟩ = some (.int .i64 n) ∧ b < w'.heap.size ∧
      Hid (Both B (fun k => Q k ∨ k = w.heap.size) w' bt bx (delM row p n).1 kept L S ng ∧ Fr (fun k => B ≤ k ∧ ¬ Q k) w w')) := by
    intro W hW
    refine (both_t_del (w := W) (by have := hW.size; omega) (fun k hk => by have := HQ.out k hk; have := hW.size; omega) (HH.out.below hW) p n hp hn hg).mono ?_
    rintro e w' ⟨rfl, hbo, hf⟩
    have hc := keepc W w' _ ((hW.block _ (by omega)).trans hcell) hf
    rw [hb] at hc
    exact ⟨rfl, cell_row hc 1, cell_row hc 2, heap_lt hc, hbo, (HF.out.trans (Fr.of_below (fun k => B ≤ k ∧ ¬ Q k) hW) (fun _ _ h => h)).trans hf (fun k _ hk => ⟨hk.1, fun q => hk.2 (.inl q)⟩)⟩
  have HX : Hid (∀ W, (Hid (Both B (fun k => Q k ∨ k = w.heap.size) W bt bx (delM row p n).1 kept L S ng ∧ Fr (fun k => B ≤ k ∧ ¬ Q k) w W)) → b < W.heap.size → W.cell? ⟨b, 1, none⟩ = some (.int .i64 p) → W.cell? ⟨b, 2, none⟩ = some (.int .i64 n) → Calls Try.prog 25 #[.pointer (some ⟨bx, 0, none⟩), .int .i64 p, .int .i64 n] W fun e w' => e = .returned (.int .i64 (delM L p n).2) ∧
      w'.cell? ⟨b, 1, none⟩ = some (.int .i64 p) ∧ w'.cell? ⟨b, 2, none⟩ = some (.int .i64 n) ∧ Hid (Both B Q w' bt bx (delM row p n).1 kept (delM L p n).1 S ng ∧ Fr (fun k => B ≤ k ∧ ¬ Q k) w w')) := by
    intro W hW hlt h1 h2
    refine (both_x_del (w := W) (by have := hW.out.2.size; omega) (fun k hk => by rcases hk with e | e; have := HQ0.out k e; have := hW.out.2.size; omega; omega) hW.out.1 p n hp).mono ?_
    rintro e w' ⟨rfl, hbo, hf⟩
    have hbk : w'.heap[b]? = W.heap[b]? := hf.block b hlt (fun hk => hk.2 (.inr hb.symm))
    exact ⟨rfl, (World.cell?_of_block (a := ⟨b, 1, none⟩) hbk).trans h1, (World.cell?_of_block (a := ⟨b, 2, none⟩) hbk).trans h2, hbo.less (fun k hk => .inl hk), hW.out.2.trans hf (fun k _ hk => ⟨hk.1, fun q => hk.2 (.inl q)⟩)⟩
  have c1 : wb.cell? ⟨b, 1, none⟩ = some (.int .i64 p) := by rw [← hb]; exact cell_row hcell 1
  have c2 : wb.cell? ⟨b, 2, none⟩ = some (.int .i64 n) := by rw [← hb]; exact cell_row hcell 2
  have c0 : wb.cell? ⟨b, 0, none⟩ = some (.int .i64 1) := by rw [← hb]; exact cell_row hcell 0
  have hbw : b < wb.heap.size := by omega
  obtain ⟨d1, hd1⟩ : ∃ d1, (delM row p n).2 = d1 := ⟨_, rfl⟩
  obtain ⟨d2, hd2⟩ : ∃ d2, (delM L p n).2 = d2 := ⟨_, rfl⟩
  rw [hd1] at HT ⊢
  rw [hd2] at HX ⊢
  clear hQ hQ' h hbl hsz hcell keepc hp hn hg hB hd1 hd2 HH HQ HF HQ0
  have HWB : Hid (w.alloc (.cells #[.int .i64 1, .int .i64 p, .int .i64 n, .slice al ll cl] 29) = wb) := hwb
  have HBb := Lib.hid hb
  clear hwb hb
  go_enter Try.func11, Try.ntmps11
  go_upto_region 1 with fail
  rw [HWB.out, HBb.out]
  go_wp2_with fail
  go_region_held3 (fun w' => w'.cell? ⟨b, 1, none⟩ = some (.int .i64 p) ∧ w'.cell? ⟨b, 2, none⟩ = some (.int .i64 n))
    (first | exact ⟨c1, c2⟩ | exact ⟨hc1, hc2⟩ | exact ⟨hc3, hc4⟩)
    (first
      | (go_at_call 17; refine (HT.out _ (by first | exact Below.refl _ _ | exact (Below.refl _ _).drew)).mono ?_; rintro e w2 ⟨rfl, hc1, hc2, hbw2, hbo⟩)
      | (go_at_call 25; refine (HX.out _ hbo hbw2 hc1 hc2).mono ?_; rintro e w3 ⟨rfl, hc3, hc4, hfin⟩))
  all_goals
    go_wp2_with fail
    go_ret
    exact ⟨⟨_, rfl, fun h => by simp [h]⟩, hfin.out⟩

set_option maxRecDepth 100000 in
set_option maxHeartbeats 2000000 in
theorem do_back (B : Nat) (Q : Nat → Prop) (w : World) (bt bx : Nat) (row : List Int) (kept : List (List Int)) (L : List Int) (S : List (List Int)) (ng : Nat) (hB : B ≤ w.heap.size) (hQ : ∀ k, Q k → k < w.heap.size) (h : Both B Q w bt bx row kept L S ng)
    (k p n : Int) (al : Option Addr) (ll cl : Nat) (hk0 : ¬ k = 0) (hk1 : ¬ k = 1) (hk2 : ¬ k = 2) (hk3 : ¬ k = 3) (hkl : kept.length ≤ lim) (hsl : S.length ≤ lim) (hsr : ∀ x ∈ S, x.length ≤ 65536) :
    Calls Try.prog 11 #[.pointer (some ⟨bt, 0, none⟩), .pointer (some ⟨bx, 0, none⟩), .agg #[.int .i64 k, .int .i64 p, .int .i64 n, .slice al ll cl]] w fun e w' => (∃ b, e = .returned (.bool b) ∧ ((backM row kept n).2 = (backM L S n).2 → b = true)) ∧ Both B Q w' bt bx (backM row kept n).1 kept (backM L S n).1 S ng ∧ Fr (fun k => B ≤ k ∧ ¬ Q k) w w' := by
  obtain ⟨wb, hwb⟩ : ∃ wb, w.alloc (.cells #[.int .i64 k, .int .i64 p, .int .i64 n, .slice al ll cl] 29) = wb := ⟨_, rfl⟩
  have hbl : Below w.heap.size w wb := by rw [← hwb]; exact (Below.refl _ _).alloc (Nat.le_refl _) _
  have hsz : wb.heap.size = w.heap.size + 1 := by rw [← hwb]; exact asz _ _
  have hcell : wb.heap[w.heap.size]? = some (.cells #[.int .i64 k, .int .i64 p, .int .i64 n, .slice al ll cl] 29 (0, 0)) := by rw [← hwb]; exact heap_alloc_new w _
  have HH := Lib.hid (h.more (N := fun k => k = w.heap.size) (fun k hk => by omega) hbl)
  have hQ' : ∀ k, (Q k ∨ k = w.heap.size) → k < wb.heap.size := fun k hk => by rcases hk with e | e; have := hQ k e; omega; omega
  have HQ := Lib.hid hQ'
  have HF : Hid (Fr (fun k => B ≤ k ∧ ¬ Q k) w wb) := Fr.of_below _ hbl
  have HQ0 := Lib.hid hQ
  have keepc : ∀ (W W' : World) (o : Obj), W.heap[w.heap.size]? = some o → Fr (fun k => B ≤ k ∧ ¬ (Q k ∨ k = w.heap.size)) W W' → W'.heap[w.heap.size]? = some o := fun W W' o h1 hf => (hf.block _ (heap_lt h1) (fun hk => hk.2 (.inr rfl))).trans h1
  obtain ⟨b, hb⟩ : ∃ b, w.heap.size = b := ⟨_, rfl⟩
  have HB := Lib.hid hB
  have HT : Hid (∀ W, Below wb.heap.size wb W → Calls Try.prog 21 #[.pointer (some ⟨bt, 0, none⟩), .int .i64 n] W fun e w' => e = .returned (.int .i64 (backM row kept n).2) ∧ w'.cell? ⟨b, 1, none⟩ = some (.int .i64 p) ∧ w'.cell? ⟨b, 2, none⟩ = some (.int .i64 n) ∧ b < w'.heap.size ∧
      Hid (Both B (fun k => Q k ∨ k = w.heap.size) w' bt bx (backM row kept n).1 kept L S ng ∧ Fr (fun k => B ≤ k ∧ ¬ Q k) w w')) := by
    intro W hW
    refine (both_t_back (w := W) (by have := hW.size; omega) (fun k hk => by have := HQ.out k hk; have := hW.size; omega) (HH.out.below hW) n hkl).mono ?_
    rintro e w' ⟨rfl, hbo, hf⟩
    have hc := keepc W w' _ ((hW.block _ (by omega)).trans hcell) hf
    rw [hb] at hc
    exact ⟨rfl, cell_row hc 1, cell_row hc 2, heap_lt hc, hbo, (HF.out.trans (Fr.of_below (fun k => B ≤ k ∧ ¬ Q k) hW) (fun _ _ h => h)).trans hf (fun k _ hk => ⟨hk.1, fun q => hk.2 (.inl q)⟩)⟩
  have HX : Hid (∀ W, (Hid (Both B (fun k => Q k ∨ k = w.heap.size) W bt bx (backM row kept n).1 kept L S ng ∧ Fr (fun k => B ≤ k ∧ ¬ Q k) w W)) → b < W.heap.size → W.cell? ⟨b, 1, none⟩ = some (.int .i64 p) → W.cell? ⟨b, 2, none⟩ = some (.int .i64 n) → Calls Try.prog 28 #[.pointer (some ⟨bx, 0, none⟩), .int .i64 n] W fun e w' => e = .returned (.int .i64 (backM L S n).2) ∧
      w'.cell? ⟨b, 1, none⟩ = some (.int .i64 p) ∧ w'.cell? ⟨b, 2, none⟩ = some (.int .i64 n) ∧ Hid (Both B Q w' bt bx (backM row kept n).1 kept (backM L S n).1 S ng ∧ Fr (fun k => B ≤ k ∧ ¬ Q k) w w')) := by
    intro W hW hlt h1 h2
    refine (both_x_back (w := W) (by have := hW.out.2.size; omega) (fun k hk => by rcases hk with e | e; have := HQ0.out k e; have := hW.out.2.size; omega; omega) hW.out.1 n hsl hsr).mono ?_
    rintro e w' ⟨rfl, hbo, hf⟩
    have hbk : w'.heap[b]? = W.heap[b]? := hf.block b hlt (fun hk => hk.2 (.inr hb.symm))
    exact ⟨rfl, (World.cell?_of_block (a := ⟨b, 1, none⟩) hbk).trans h1, (World.cell?_of_block (a := ⟨b, 2, none⟩) hbk).trans h2, hbo.less (fun k hk => .inl hk), hW.out.2.trans hf (fun k _ hk => ⟨hk.1, fun q => hk.2 (.inl q)⟩)⟩
  have c1 : wb.cell? ⟨b, 1, none⟩ = some (.int .i64 p) := by rw [← hb]; exact cell_row hcell 1
  have c2 : wb.cell? ⟨b, 2, none⟩ = some (.int .i64 n) := by rw [← hb]; exact cell_row hcell 2
  have c0 : wb.cell? ⟨b, 0, none⟩ = some (.int .i64 k) := by rw [← hb]; exact cell_row hcell 0
  have hbw : b < wb.heap.size := by omega
  obtain ⟨d1, hd1⟩ : ∃ d1, (backM row kept n).2 = d1 := ⟨_, rfl⟩
  obtain ⟨d2, hd2⟩ : ∃ d2, (backM L S n).2 = d2 := ⟨_, rfl⟩
  rw [hd1] at HT ⊢
  rw [hd2] at HX ⊢
  clear hQ hQ' h hbl hsz hcell keepc hkl hsl hsr hB hd1 hd2 HH HQ HF HQ0
  have HWB : Hid (w.alloc (.cells #[.int .i64 k, .int .i64 p, .int .i64 n, .slice al ll cl] 29) = wb) := hwb
  have HBb := Lib.hid hb
  clear hwb hb
  go_enter Try.func11, Try.ntmps11
  go_upto_region 1 with fail
  rw [HWB.out, HBb.out]
  go_wp2_with fail
  go_region_held3 (fun w' => w'.cell? ⟨b, 1, none⟩ = some (.int .i64 p) ∧ w'.cell? ⟨b, 2, none⟩ = some (.int .i64 n))
    (first | exact ⟨c1, c2⟩ | exact ⟨hc1, hc2⟩ | exact ⟨hc3, hc4⟩)
    (first
      | (go_at_call 21; refine (HT.out _ (by first | exact Below.refl _ _ | exact (Below.refl _ _).drew)).mono ?_; rintro e w2 ⟨rfl, hc1, hc2, hbw2, hbo⟩)
      | (go_at_call 28; refine (HX.out _ hbo hbw2 hc1 hc2).mono ?_; rintro e w3 ⟨rfl, hc3, hc4, hfin⟩))
  all_goals
    go_wp2_with fail
    go_ret
    exact ⟨⟨_, rfl, fun h => by simp [h]⟩, hfin.out⟩

end Go.Proofs.Ytblbbcgdgbajnaa.U
