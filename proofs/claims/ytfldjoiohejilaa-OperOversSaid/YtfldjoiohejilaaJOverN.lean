/-
  The document's Over, where its runes are not there.
-/
import Derived.Test.YtfldjoiohejilaaJJoinC
namespace Go.Proofs.Ytfldjoiohejilaa.U
open Go.RowKit
set_option linter.unusedVariables false
set_option linter.unusedSimpArgs false
set_option maxRecDepth 100000

set_option maxHeartbeats 1000000 in
theorem rover_none (a : Option Addr) (c : Nat) (p : Po) (r m : Int) (w : World) :
    Calls Try.prog 31 #[.slice a 0 c, p.v, .int .i32 r, .int .i64 m] w fun e w' => e = .returned (.tuple #[.slice none 0 0, plV (0, 0), .int .i64 2]) ∧ Below w.heap.size w w' := by
  obtain ⟨p1, p2⟩ := p
  show Calls Try.prog 31 #[.slice a 0 c, .agg #[.int .i64 p1, .int .i64 p2], .int .i32 r, .int .i64 m] w _
  obtain ⟨wb, hwb⟩ : ∃ wb, (w.alloc (.cells #[.int .i64 p1, .int .i64 p2] 24)).alloc (.cells #[.int .i64 0, .int .i64 0] 24) = wb := ⟨_, rfl⟩
  have hB : Below w.heap.size w wb := by rw [← hwb]; exact ((Below.refl _ _).alloc (Nat.le_refl _) _).alloc (by simp) _
  obtain ⟨g1, g2⟩ := two_new w _ _ _ _ wb (by rw [← hwb]; exact Below.refl _ _)
  obtain ⟨x0, x1, z0, z1⟩ := row2 g2
  have hl := heap_lt g2
  obtain ⟨b, hbe⟩ : ∃ b, w.heap.size = b := ⟨_, rfl⟩
  have HBE := Lib.hid hbe
  have HW := Lib.hid hwb
  have HB := Lib.hid hB
  rw [hbe] at x0 x1 z0 z1 hl
  clear hwb hB g1 g2 hbe
  go_enter Try.func31, Try.ntmps31
  go_upto_region 1 with fail
  rw [HBE.out, HW.out]
  go_wp2
  refine bodyPost_ret (v := .tuple #[.slice none 0 0, plV (0, 0), .int .i64 2]) ?_ rfl ⟨rfl, ?_⟩
  · rw [results_tct rfl]
    go_simp
    first | rfl | done
  · (repeat' (first | exact HB.out | (have := HBE.out; omega) | refine setCell_below ?_ _ _ _ ?_))
set_option maxHeartbeats 2000000 in
theorem rover_no (F : Nat → Prop) (a : Option Addr) (n c : Nat) (L : List (List Int)) (p : Po) (r m : Int) (w : World) (h : RdL F w a n c L) (hp : i64p p) (hm : i64b m) (hn : 0 < n) (hs : sizeN (lens L) ≤ 1048576) (hR : ((lnL L (clipZ L p).1).length : Int) - ((clipZ L p).2 : Int) < max 1 m) :
    Calls Try.prog 31 #[.slice a n c, p.v, .int .i32 r, .int .i64 m] w fun e w' => e = .returned (.tuple #[.slice none 0 0, plV (0, 0), .int .i64 2]) ∧ Below w.heap.size w w' := by
  have hl := h.len
  have hsm := h.small
  have hcl := fun W (hW : Below w.heap.size w W) => rclip_any F a n c L p W (h.below hW) hp
  have hL : L ≠ [] := by rintro rfl; simp at hl; omega
  have hok := clipP_ok hL p.l p.c
  have hbd := i64_okP h hs hok
  obtain ⟨⟨q1, q2⟩, hq⟩ : ∃ q, clipP L p.l p.c = q := ⟨_, rfl⟩
  unfold clipZ at hR
  rw [hq] at hcl hok hbd hR
  simp only at hR hbd
  obtain ⟨hb1, hb2⟩ := hbd
  have hq1 : q1 < n := by have := hok.1; simp only at this; omega
  obtain ⟨x, hx⟩ : ∃ x, L[q1]? = some x := ⟨_, List.getElem?_eq_getElem (by omega)⟩
  rw [lnL_of hx] at hR
  have hxl : x.length ≤ 1048576 := by
    have hm : x.length ∈ lens L := List.mem_map.2 ⟨_, List.mem_of_getElem? hx, rfl⟩
    have := sizeN_mem hm
    omega
  obtain ⟨p1, p2⟩ := p
  show Calls Try.prog 31 #[.slice a n c, .agg #[.int .i64 p1, .int .i64 p2], .int .i32 r, .int .i64 m] w _
  obtain ⟨wb, hwb⟩ : ∃ wb, (w.alloc (.cells #[.int .i64 p1, .int .i64 p2] 24)).alloc (.cells #[.int .i64 0, .int .i64 0] 24) = wb := ⟨_, rfl⟩
  have hB : Below w.heap.size w wb := by rw [← hwb]; exact ((Below.refl _ _).alloc (Nat.le_refl _) _).alloc (by simp) _
  have hsz : wb.heap.size = w.heap.size + 2 := by rw [← hwb]; simp
  have hnew := two_new w #[.int .i64 p1, .int .i64 p2] #[.int .i64 0, .int .i64 0] 24 24
  rw [hwb, ← hsz] at hnew
  obtain ⟨lb, lo, xa, xc, rfl, hlb, -, hc0, -, -, -⟩ := h.get (Below.refl _ _) hx
  obtain ⟨xl, hxe⟩ : ∃ xl, x.length = xl := ⟨_, rfl⟩
  rw [hxe] at hc0 hxl hR
  obtain ⟨g1, g2⟩ := hnew wb (Below.refl _ _)
  obtain ⟨f0, f1, -, -⟩ := row2 g1
  have fl := heap_lt g1
  obtain ⟨b, hbe⟩ : ∃ b, w.heap.size = b := ⟨_, rfl⟩
  have HC : Hid (∀ W, W = wb → Calls Try.prog 32 #[.slice (some ⟨lb, lo, none⟩) n c, .agg #[.int .i64 p1, .int .i64 p2]] W fun e w' => e = .returned (.agg #[.int .i64 (q1 : Nat), .int .i64 (q2 : Nat)]) ∧ (w'.frozen? ⟨b, 0, none⟩ = false ∧ w'.frozen? ⟨b, 1, none⟩ = false ∧ b < w'.heap.size ∧ w'.cell? ⟨b, 0, none⟩ = some (.int .i64 p1) ∧ w'.cell? ⟨b, 1, none⟩ = some (.int .i64 p2)) ∧ (w'.cell? ⟨b + 1, 0, none⟩ = some (.int .i64 0) ∧ w'.cell? ⟨b + 1, 1, none⟩ = some (.int .i64 0) ∧ w'.frozen? ⟨b + 1, 0, none⟩ = false ∧ w'.frozen? ⟨b + 1, 1, none⟩ = false ∧ b + 1 < w'.heap.size) ∧ w'.cell? ⟨lb, lo + q1, none⟩ = some (.slice xa xl xc) ∧ Hid (Below b w w')) := by
    rintro W rfl
    refine (hcl W hB).mono ?_
    rintro e w' ⟨rfl, hb⟩
    obtain ⟨g1, g2⟩ := hnew w' hb
    rw [hbe] at g1 g2
    have hb3 := hB.trans (hb.mono (by omega))
    exact ⟨rfl, ⟨frozen_row g1 0, frozen_row g1 1, heap_lt g1, cell_row g1 0, cell_row g1 1⟩, ⟨cell_row g2 0, cell_row g2 1, frozen_row g2 0, frozen_row g2 1, heap_lt g2⟩, (hb3.cell (p := ⟨lb, lo + q1, none⟩) hlb).trans hc0, by rw [← hbe]; exact hb3⟩
  have HBE := Lib.hid hbe
  have HW := Lib.hid hwb
  have hlb' : lb < b := by omega
  obtain ⟨hm1, hm2⟩ := hm
  obtain ⟨M, hM⟩ : ∃ M, max 1 m = M := ⟨_, rfl⟩
  rw [hM] at hR
  have hMb : 1 ≤ M ∧ M ≤ 9223372036854775807 := by omega
  obtain ⟨hMb1, hMb2⟩ := hMb
  rw [hbe] at f0 f1 fl
  rw [hbe]
  clear hwb hB hsz hnew h hl hcl hL hok hq hx hxe hc0 g1 g2 hbe hs hp
  go_enter Try.func31, Try.ntmps31
  go_upto_region 1 with fail
  rw [HBE.out, HW.out]
  have hn0 : ((n : Int) == 0) = false := by simp; omega
  have hnb : ¬ lb = b := by omega
  go_wp2_with (go_at_call 32; (refine (HC.out _ rfl).mono ?_); rintro e w1 ⟨rfl, ⟨u0, u1, u2, u3, u4⟩, ⟨v0, v1, v2, v3, v4⟩, v5, HB1⟩)
  refine bodyPost_ret (v := .tuple #[.slice none 0 0, plV (0, 0), .int .i64 2]) ?_ rfl ⟨rfl, ?_⟩
  · rw [results_tct rfl]
    go_simp
    first | rfl | done
  · (repeat' (first | exact HB1.out | omega | refine setCell_below ?_ _ _ _ ?_))
end Go.Proofs.Ytfldjoiohejilaa.U
