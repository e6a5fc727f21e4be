/-
  The program's settled, firstRune, (area).of, (area).behind.
-/
import Derived.Test.YtfldjoiohejilaaKFind
import Derived.Test.YtfldjoiohejilaaKRep
import Derived.BigQuiet
namespace Go.Proofs.Ytfldjoiohejilaa.U
open Go.RowKit
set_option linter.unusedVariables false
set_option linter.unusedSimpArgs false
set_option maxRecDepth 100000

theorem results_tctK {fn : Func} {p q r : Tmp} {ty : TypeId} (h : fn.results = #[.tmp p, .cell q ty, .tmp r]) (tmps : Array Value) (P : Program) (w : World) :
    (results fn tmps).run P w = ((asAddr (tmps.getD q undef)).run P w).andThen fun a w₁ => ((loadVar ty a).run P w₁).andThen fun v w₂ => .ok (.tuple #[tmps.getD p undef, v, tmps.getD r undef]) w₂ := by
  simp only [results, h]
  simp [Sem.run_bind, Result.andThen]
theorem two_cells (w : World) (x y : Value) (u v : Value) : ∀ W, W = (w.alloc (.cells #[x, y] 24)).alloc (.cells #[u, v] 24) → (W.cell? ⟨w.heap.size, 0, none⟩ = some x ∧ W.cell? ⟨w.heap.size, 1, none⟩ = some y ∧ w.heap.size < W.heap.size) ∧ (W.cell? ⟨w.heap.size + 1, 0, none⟩ = some u ∧ W.cell? ⟨w.heap.size + 1, 1, none⟩ = some v ∧ W.frozen? ⟨w.heap.size + 1, 0, none⟩ = false ∧ W.frozen? ⟨w.heap.size + 1, 1, none⟩ = false ∧ w.heap.size + 1 < W.heap.size) ∧ Below w.heap.size w W := by
  rintro W rfl
  obtain ⟨g1, g2⟩ := two_new w #[x, y] #[u, v] 24 24 _ (Below.refl _ _)
  exact ⟨⟨cell_row g1 0, cell_row g1 1, heap_lt g1⟩, ⟨cell_row g2 0, cell_row g2 1, frozen_row g2 0, frozen_row g2 1, heap_lt g2⟩, ((Below.refl _ _).alloc (Nat.le_refl _) _).alloc (by simp) _⟩
set_option maxHeartbeats 2000000 in
/-- settled, if there is room -/
theorem ksettled_ok (F : Nat → Prop) (a : Option Addr) (n c : Nat) (L : List (List Int)) (p : Pl) (w : World) (h : RdL F w a n c L) (hs : sizeN (lens L) ≤ 65537) :
    Calls Try.prog 48 #[.slice a n c, plV p] w fun e w' => e = .returned (.tuple #[.slice a n c, plV p, .int .i64 0]) ∧ Below w.heap.size w w' := by
  obtain ⟨x, y⟩ := p
  unfold plV
  simp only
  obtain ⟨wb, hwb⟩ : ∃ wb, wb = (w.alloc (.cells #[.int .i64 (x : Nat), .int .i64 (y : Nat)] 24)).alloc (.cells #[.int .i64 0, .int .i64 0] 24) := ⟨_, rfl⟩
  obtain ⟨⟨c0, c1, cl⟩, ⟨d0, d1, z0, z1, dl⟩, hB⟩ := two_cells w _ _ _ _ wb hwb
  have HC : Hid (∀ W, W = wb → Calls Try.prog 61 #[.slice a n c] W fun e w' => e = .returned (.int .i64 (65537 - (sizeN (lens L) : Int))) ∧ W = w') := by
    rintro W rfl
    exact (kroom_any F a n c L W (h.below hB) (by omega)).mono fun _ _ h => ⟨h.1, h.2.symm⟩
  have hneg : ¬ (65537 - (sizeN (lens L) : Int)) < 0 := by omega
  have hd : decide ((65537 - (sizeN (lens L) : Int)) < 0) = false := by simp; omega
  obtain ⟨S, hS⟩ : ∃ S, (65537 - (sizeN (lens L) : Int)) = S := ⟨_, rfl⟩
  rw [hS] at HC hneg hd
  obtain ⟨b, hbe⟩ : ∃ b, w.heap.size = b := ⟨_, rfl⟩
  have HBE := Lib.hid hbe
  have HW := Lib.hid hwb
  have HB := Lib.hid hB
  rw [hbe] at c0 c1 cl d0 d1 z0 z1 dl HB
  rw [hbe]
  clear hwb hB hbe hS h hs
  go_enter Try.func48, Try.ntmps48
  go_upto_region 1 with fail
  rw [HBE.out, ← HW.out]
  go_upto_region 3 with (go_at_call 61; (refine (HC.out _ rfl).mono ?_); rintro e wq ⟨rfl, hwq⟩; subst hwq)
  go_region
  all_goals
    go_wp2
    refine bodyPost_ret (v := .tuple #[.slice a n c, .agg #[.int .i64 (x : Nat), .int .i64 (y : Nat)], .int .i64 0]) ?_ rfl ⟨rfl, ?_⟩
    · rw [results_tctK rfl]
      go_simp
    · (try with_reducible refine Below.drew ?_)
      (repeat' (first | (with_reducible exact HB.out) | (with_reducible exact HB.out.drew) | (with_reducible refine setCell_below ?_ _ _ _ ?_) | omega))
/-- settled, if not -/
theorem ksettled_no (F : Nat → Prop) (a : Option Addr) (n c : Nat) (L : List (List Int)) (p : Pl) (w : World) (h : RdL F w a n c L) (hs : 65537 < sizeN (lens L)) (hs2 : sizeN (lens L) ≤ 1099511627776) :
    Calls Try.prog 48 #[.slice a n c, plV p] w fun e w' => e = .returned (.tuple #[.slice none 0 0, plV (0, 0), .int .i64 3]) ∧ Below w.heap.size w w' := by
  obtain ⟨x, y⟩ := p
  unfold plV
  simp only
  obtain ⟨wb, hwb⟩ : ∃ wb, wb = (w.alloc (.cells #[.int .i64 (x : Nat), .int .i64 (y : Nat)] 24)).alloc (.cells #[.int .i64 0, .int .i64 0] 24) := ⟨_, rfl⟩
  obtain ⟨⟨c0, c1, cl⟩, ⟨d0, d1, z0, z1, dl⟩, hB⟩ := two_cells w _ _ _ _ wb hwb
  have HC : Hid (∀ W, W = wb → Calls Try.prog 61 #[.slice a n c] W fun e w' => e = .returned (.int .i64 (65537 - (sizeN (lens L) : Int))) ∧ W = w') := by
    rintro W rfl
    exact (kroom_any F a n c L W (h.below hB) (by omega)).mono fun _ _ h => ⟨h.1, h.2.symm⟩
  have hneg : (65537 - (sizeN (lens L) : Int)) < 0 := by omega
  have hd : decide ((65537 - (sizeN (lens L) : Int)) < 0) = true := by simp; omega
  obtain ⟨S, hS⟩ : ∃ S, (65537 - (sizeN (lens L) : Int)) = S := ⟨_, rfl⟩
  rw [hS] at HC hneg hd
  obtain ⟨b, hbe⟩ : ∃ b, w.heap.size = b := ⟨_, rfl⟩
  have HBE := Lib.hid hbe
  have HW := Lib.hid hwb
  have HB := Lib.hid hB
  rw [hbe] at c0 c1 cl d0 d1 z0 z1 dl HB
  rw [hbe]
  clear hwb hB hbe hS h hs
  go_enter Try.func48, Try.ntmps48
  go_upto_region 1 with fail
  rw [HBE.out, ← HW.out]
  go_wp2_with (go_at_call 61; (refine (HC.out _ rfl).mono ?_); rintro e wq ⟨rfl, hwq⟩; subst hwq)
  refine bodyPost_ret (v := .tuple #[.slice none 0 0, .agg #[.int .i64 0, .int .i64 0], .int .i64 3]) ?_ rfl ⟨rfl, ?_⟩
  · rw [results_tctK rfl]
    go_simp
  · (try with_reducible refine Below.drew ?_)
    (repeat' (first | (with_reducible exact HB.out) | (with_reducible exact HB.out.drew) | (with_reducible refine setCell_below ?_ _ _ _ ?_) | omega))
/-- a place's box that holds (0, 0) -/
structure ArP (b : Nat) (W : World) : Prop where
  c0 : W.cell? ⟨b, 0, none⟩ = some (.int .i64 0)
  c1 : W.cell? ⟨b, 1, none⟩ = some (.int .i64 0)
  z0 : W.frozen? ⟨b, 0, none⟩ = false
  z1 : W.frozen? ⟨b, 1, none⟩ = false
  l : b < W.heap.size
theorem ArP.of {b : Nat} {W : World} {t : TypeId} (h : W.heap[b]? = some (.cells #[.int .i64 0, .int .i64 0] t (0, 0))) : ArP b W := ⟨cell_row h 0, cell_row h 1, frozen_row h 0, frozen_row h 1, heap_lt h⟩
set_option maxHeartbeats 2000000 in
theorem kfirst_any (F : Nat → Prop) (a : Option Addr) (n c : Nat) (L : List (List Int)) (i : Nat) (w : World) (h : RdL F w a n c L) (hi : i < n) :
    Calls Try.prog 82 #[.slice a n c, .int .i64 (i : Nat)] w fun e w' => e = .returned (plV (i, firstR (lnL L i))) ∧ Below w.heap.size w w' := by
  have hl := h.len
  have hsm := h.small
  obtain ⟨x, hx⟩ : ∃ x, L[i]? = some x := ⟨_, List.getElem?_eq_getElem (by omega)⟩
  have hln := lnL_of hx
  rw [hln]
  have hclip := clip_first (L := L) (i := i) (by omega)
  rw [hln] at hclip
  obtain ⟨wb, hwb⟩ : ∃ wb, w.alloc (.cells #[.int .i64 0, .int .i64 0] 24) = wb := ⟨_, rfl⟩
  have g := heap_alloc_new w (.cells #[.int .i64 0, .int .i64 0] 24)
  have hB := bal w (.cells #[.int .i64 0, .int .i64 0] 24)
  rw [hwb] at g hB
  obtain ⟨b', off, xa, xc, rfl, hbl, _, hc, hrd, _⟩ := h.get hB hx
  have hxs := hrd.small
  have hbk := blkN_le x
  have HC : Hid (∀ W, W = wb → Calls Try.prog 94 #[.slice xa x.length xc] W fun e w' => e = .returned (.int .i64 (blkN x : Nat)) ∧ W = w') := by
    rintro W rfl
    exact (kblanks_any xa x.length xc x W hrd).mono fun _ _ h => ⟨h.1, h.2.symm⟩
  have HD : Hid (∀ W, W = wb → Calls Try.prog 53 #[.slice (some ⟨b', off, none⟩) n c, .agg #[.int .i64 (i : Nat), .int .i64 (blkN x : Nat)]] W fun e w' => e = .returned (.agg #[.int .i64 (i : Nat), .int .i64 (firstR x : Nat)]) ∧ ArP w.heap.size w' ∧ Hid (Below w.heap.size w w')) := by
    rintro W rfl
    refine (wclip_any F _ n c L ⟨(i : Int), (blkN x : Int)⟩ W (h.below hB) ⟨⟨by show _ ≤ (i : Int); omega, by show (i : Int) ≤ _; omega⟩, ⟨by show _ ≤ (blkN x : Int); omega, by show (blkN x : Int) ≤ _; omega⟩⟩).mono ?_
    rintro e w' ⟨rfl, hb⟩
    rw [hclip]
    exact ⟨rfl, ArP.of ((hb.block _ (heap_lt g)).trans g), hB.trans (hb.mono hB.size)⟩
  obtain ⟨y, hy⟩ : ∃ y, x.length = y := ⟨_, rfl⟩
  rw [hy] at hc HC
  obtain ⟨K, hK⟩ : ∃ K, blkN x = K := ⟨_, rfl⟩
  rw [hK] at HC HD
  obtain ⟨fx, hfx⟩ : ∃ fx, firstR x = fx := ⟨_, rfl⟩
  rw [hfx] at HD ⊢
  have hbw : b' < wb.heap.size := by have := hB.size; omega
  have HW := Lib.hid hwb
  obtain ⟨b, hbe⟩ : ∃ b, w.heap.size = b := ⟨_, rfl⟩
  have HBE := Lib.hid hbe
  rw [hbe] at HD
  rw [hbe]
  clear hwb g hB h hx hln hclip hrd hy hK hfx hl hbe hxs hbk hbl
  unfold plV
  go_enter Try.func82, Try.ntmps82
  go_upto_region 1 with fail
  rw [HBE.out, HW.out]
  go_wp2_with (first
    | (go_at_call 53; (refine (HD.out _ rfl).mono ?_); rintro e w2 ⟨rfl, ⟨p0, p1, p2, p3, p4⟩, HB2⟩)
    | (go_at_call 94; (refine (HC.out _ rfl).mono ?_); rintro e wq ⟨rfl, hwq⟩; subst hwq))
  refine bodyPost_ret (v := .agg #[.int .i64 (i : Nat), .int .i64 (fx : Nat)]) ?_ rfl ⟨rfl, ?_⟩
  · rw [results_cell1 rfl]
    go_simp
  · (try with_reducible refine Below.drew ?_)
    (repeat' (first | (with_reducible exact HB2.out) | (with_reducible exact HB2.out.drew) | (with_reducible refine setCell_below ?_ _ _ _ ?_) | omega))
end Go.Proofs.Ytfldjoiohejilaa.U
