/-
  Paste's three ways, each told by pasteR.
  The program's Paste.
  The program's Paste, whatever it is called with.
-/
import Derived.Test.YtfldjoiohejilaaKPasBO
import Derived.Test.YtfldjoiohejilaaKPasP
import Derived.Test.YtfldjoiohejilaaKPasS
import Derived.Test.YtfldjoiohejilaaKPasC
namespace Go.Proofs.Ytfldjoiohejilaa.U
open Go.RowKit
set_option linter.unusedVariables false
set_option linter.unusedSimpArgs false
set_option maxRecDepth 100000

theorem pasA_no {w w' : World} {e : Ending} {R : List (List Int) × Pl × Int} (hR : R = ([], (0, 0), 3)) (h : e = .returned (.tuple #[.slice none 0 0, plV (0, 0), .int .i64 3]) ∧ Below w.heap.size w w') : PasA w R e w' := by
  subst hR
  exact ⟨none, 0, 0, h.1, RdL.none0 _ _, h.2⟩
theorem timesN_pos {k : Int} {G : List (List Int)} {m : Int} {N : Nat} (hN : max m 1 = (N : Int)) : timesN k G m = if eachR k G = 0 then 1 else N := by
  unfold timesN
  have : (max 1 m).toNat = N := by omega
  rw [this]
/-- the column where a text goes in -/
theorem colR_min {L : List (List Int)} {q : Pl} (h : okP L q) : min (q.2 + 1) (lnL L q.1).length = colR L q true := by
  obtain ⟨h1, h2⟩ := h
  unfold colR
  by_cases e : lnL L q.1 = []
  · rw [if_neg (by simp [e]), e]
    rw [e] at h2
    simp at h2 ⊢
    omega
  · rw [if_pos ⟨rfl, e⟩]
    have := List.length_pos_iff.2 e
    omega
theorem colR_le {L : List (List Int)} {q : Pl} (h : okP L q) (bh : Bool) : colR L q bh ≤ (lnL L q.1).length := by
  cases bh with
  | true => rw [← colR_min h]; omega
  | false =>
    obtain ⟨h1, h2⟩ := h
    unfold colR
    rw [if_neg (by simp)]
    omega
theorem kin0 (F G : Nat → Prop) (a : Option Addr) (n c : Nat) (L : List (List Int)) (ga : Option Addr) (gn gc : Nat) (GL : List (List Int)) (p : Po) (bh : Bool) (m : Int) (N : Nat) (w : World) (h : RdL F w a n c L) (hs : sizeN (lens L) ≤ 65536) (hpl : plainL L) (hg : RdL G w ga gn gc GL) (hgs : sizeN (lens GL) ≤ 65536) (hg0 : GL ≠ []) (hL0 : L ≠ []) (hp : plainL GL) (hm : i64b m) (hN : max m 1 = (N : Int)) :
    Calls Try.prog 56 #[.slice a n c, plV (clipZ L p), .int .i64 (colR L (clipZ L p) bh : Nat), .slice ga gn gc, .int .i64 (N : Nat)] w (PasA w (pasteR L p 0 GL bh m)) := by
  obtain ⟨q, hq⟩ : ∃ q, clipZ L p = q := ⟨_, rfl⟩
  have hok : okP L q := by rw [← hq]; exact clipP_ok hL0 _ _
  have hcol := colR_le hok bh
  have hl := h.len
  have hx : L[q.1]? = some (lnL L q.1) := by unfold lnL; rw [List.getD_eq_getElem?_getD, List.getElem?_eq_getElem hok.1]; rfl
  have h10 : (10 : Int) ∉ lnL L q.1 := hpl _ (List.mem_of_getElem? hx)
  have hxl := sizeN_mem (List.mem_map.2 ⟨_, List.mem_of_getElem? hx, rfl⟩ : List.length (lnL L q.1) ∈ List.map List.length L)
  have hxl2 : (lnL L q.1).length ≤ 65536 := by unfold lens at hs; omega
  have hT := timesN_pos (k := 0) (G := GL) hN
  have hE : eachR 0 GL = runesR GL := rfl
  have hN1 : 1 ≤ N := by omega
  have hN9 : N ≤ 9223372036854775807 := by have := hm.2; have := hm.1; omega
  have hq2 : q.2 ≤ 65536 := by have := hok.2; omega
  rw [hE] at hT
  by_cases hfit : sizeN (lens L) + timesN 0 GL m * runesR GL ≤ 65537
  · rw [pasteR_ok hL0 hg0 hp (by decide) (by decide) (by rw [hE]; unfold lackK; rw [if_neg (by decide)]; exact hfit), hq]
    exact kpchars_ok F G a n c L ga gn gc GL q _ N (timesN 0 GL m) w h hs hg hgs hg0 hp h10 (by have := hok.1; omega) (by omega) hcol hN1 hN9 hT hfit
  · rw [hq]
    have he0 : runesR GL ≠ 0 := by intro e; rw [e] at hfit; omega
    rw [if_neg he0] at hT
    rw [hT] at hfit
    refine (kpchars_no F G a n c L ga gn gc GL q _ (N : Int) w h hs hg hgs hg0 ⟨by omega, by omega⟩ (by omega) he0 (by
      intro e
      have : ((N * runesR GL : Nat) : Int) = (N : Int) * (runesR GL : Int) := by push_cast; rfl
      omega)).mono fun e w' hh => pasA_no ?_ hh
    exact pasteR_full hL0 hg0 hp (by decide) (by decide) (by rw [hE, hT]; unfold lackK; rw [if_neg (by decide)]; omega)
theorem kin1 (F G : Nat → Prop) (a : Option Addr) (n c : Nat) (L : List (List Int)) (ga : Option Addr) (gn gc : Nat) (GL : List (List Int)) (p : Po) (bh : Bool) (m : Int) (N A : Nat) (w : World) (h : RdL F w a n c L) (hs : sizeN (lens L) ≤ 65536) (hg : RdL G w ga gn gc GL) (hgs : sizeN (lens GL) ≤ 65536) (hg0 : GL ≠ []) (hL0 : L ≠ []) (hp : plainL GL) (hm : i64b m) (hN : max m 1 = (N : Int)) (hA : A = if bh then (clipZ L p).1 + 1 else (clipZ L p).1) :
    Calls Try.prog 54 #[.slice a n c, .int .i64 (A : Nat), .slice ga gn gc, .int .i64 (N : Nat)] w (PasA w (pasteR L p 1 GL bh m)) := by
  have hok : okP L (clipZ L p) := clipP_ok hL0 _ _
  have hl := h.len
  have hT := timesN_pos (k := 1) (G := GL) hN
  have hE : eachR 1 GL = sizeN (lens GL) := by rw [← runesR_size hg0]; rfl
  have hGc := size_count GL
  have hGp := List.length_pos_iff.2 hg0
  have hN1 : 1 ≤ N := by omega
  have hN9 : N ≤ 9223372036854775807 := by have := hm.2; have := hm.1; omega
  have hAn : A ≤ n := by rw [hA]; have := hok.1; split <;> omega
  rw [hE, if_neg (by omega)] at hT
  by_cases hfit : sizeN (lens L) + N * sizeN (lens GL) ≤ 65537
  · rw [pasteR_ok hL0 hg0 hp (by decide) (by decide) (by rw [hE, hT]; unfold lackK; rw [if_neg (by decide)]; exact hfit), hT]
    have e1 : pasteM L (clipZ L p) 1 GL bh N = wholeL L A GL N := by rw [hA]; rfl
    have e2 : pasteQ L (clipZ L p) 1 GL bh N = wholeQ L A GL N := by rw [hA]; rfl
    rw [e1, e2]
    exact kplines_ok F G a n c L ga gn gc GL A N w h hs hg hgs hg0 hL0 hAn hN1 hN9 hfit
  · refine (kplines_no F G a n c L ga gn gc GL A (N : Int) w h hs hg hgs hg0 ⟨by omega, by omega⟩ (by omega) (by
      intro e
      have : ((N * sizeN (lens GL) : Nat) : Int) = (N : Int) * (sizeN (lens GL) : Int) := by push_cast; rfl
      omega)).mono fun e w' hh => pasA_no ?_ hh
    exact pasteR_full hL0 hg0 hp (by decide) (by decide) (by rw [hE, hT]; unfold lackK; rw [if_neg (by decide)]; omega)
theorem kin2 (F G : Nat → Prop) (a : Option Addr) (n c : Nat) (L : List (List Int)) (ga : Option Addr) (gn gc : Nat) (GL : List (List Int)) (p : Po) (bh : Bool) (m : Int) (N : Nat) (w : World) (h : RdL F w a n c L) (hs : sizeN (lens L) ≤ 65536) (hg : RdL G w ga gn gc GL) (hgs : sizeN (lens GL) ≤ 65536) (hg0 : GL ≠ []) (hL0 : L ≠ []) (hp : plainL GL) (hm : i64b m) (hN : max m 1 = (N : Int)) :
    Calls Try.prog 55 #[.slice a n c, plV ((clipZ L p).1, colR L (clipZ L p) bh), .slice ga gn gc, .int .i64 (N : Nat)] w (PasA w (pasteR L p 2 GL bh m)) := by
  obtain ⟨q, hq⟩ : ∃ q, clipZ L p = q := ⟨_, rfl⟩
  have hok : okP L q := by rw [← hq]; exact clipP_ok hL0 _ _
  have hcol := colR_le hok bh
  have hl := h.len
  have hx : L[q.1]? = some (lnL L q.1) := by unfold lnL; rw [List.getD_eq_getElem?_getD, List.getElem?_eq_getElem hok.1]; rfl
  have hxl := sizeN_mem (List.mem_map.2 ⟨_, List.mem_of_getElem? hx, rfl⟩ : List.length (lnL L q.1) ∈ List.map List.length L)
  have hxl2 : (lnL L q.1).length ≤ 65536 := by unfold lens at hs; omega
  have hT := timesN_pos (k := 2) (G := GL) hN
  have hE : eachR 2 GL = widestR GL * GL.length := rfl
  have hN1 : 1 ≤ N := by omega
  have hN9 : N ≤ 9223372036854775807 := by have := hm.2; have := hm.1; omega
  rw [hE] at hT
  by_cases hfit : sizeN (lens L) + lackR L q.1 (colR L q bh) GL.length + timesN 2 GL m * (widestR GL * GL.length) ≤ 65537
  · rw [pasteR_ok hL0 hg0 hp (by decide) (by decide) (by rw [hE, hq]; unfold lackK; rw [if_pos rfl]; exact hfit), hq]
    exact kpblock_ok F G a n c L ga gn gc GL q.1 _ N (timesN 2 GL m) w h hs hg hgs (by have := hok.1; omega) (by omega) hN1 hN9 hT hfit hL0 hg0
  · rw [hq]
    refine (kpblock_no F G a n c L ga gn gc GL q.1 _ N (timesN 2 GL m) w h hs hg hgs (by have := hok.1; omega) (by omega) hN1 hN9 hT (by omega)).mono fun e w' hh => pasA_no ?_ hh
    exact pasteR_full hL0 hg0 hp (by decide) (by decide) (by rw [hE, hq]; unfold lackK; rw [if_pos rfl]; omega)
end Go.Proofs.Ytfldjoiohejilaa.U

namespace Go.Proofs.Ytfldjoiohejilaa.U
open Go.RowKit
set_option linter.unusedVariables false
set_option linter.unusedSimpArgs false
set_option maxRecDepth 100000

/-- Paste's boxes: the place, the register, the place that is told -/
structure PqS (w : World) (b : Nat) (v0 v1 : Int) (k : Int) (ga : Option Addr) (gn gc : Nat) (W : World) : Prop where
  hb : Below b w W
  p : W.heap[b]? = some (.cells #[.int .i64 v0, .int .i64 v1] 24 (0, 0))
  g : W.heap[b + 1]? = some (.cells #[.int .i64 k, .slice ga gn gc] 30 (0, 0))
  z : W.heap[b + 2]? = some (.cells #[.int .i64 0, .int .i64 0] 24 (0, 0))
theorem PqS.below {w W W' : World} {b : Nat} {v0 v1 k : Int} {ga : Option Addr} {gn gc : Nat} (h : PqS w b v0 v1 k ga gn gc W) (hw : w.heap.size = b) (hb : Below W.heap.size W W') : PqS w b v0 v1 k ga gn gc W' :=
  ⟨h.hb.trans (hb.mono (by have := h.hb.size; omega)), (hb.block _ (heap_lt h.p)).trans h.p, (hb.block _ (heap_lt h.g)).trans h.g, (hb.block _ (heap_lt h.z)).trans h.z⟩
theorem pqs_new (w : World) (v0 v1 k : Int) (ga : Option Addr) (gn gc : Nat) : PqS w w.heap.size v0 v1 k ga gn gc (((w.alloc (.cells #[.int .i64 v0, .int .i64 v1] 24)).alloc (.cells #[.int .i64 k, .slice ga gn gc] 30)).alloc (.cells #[.int .i64 0, .int .i64 0] 24)) := by
  obtain ⟨g1, g2, g3⟩ := three_new w #[.int .i64 v0, .int .i64 v1] #[.int .i64 k, .slice ga gn gc] #[.int .i64 0, .int .i64 0] 24 30 24 _ (Below.refl _ _)
  exact ⟨(((Below.refl _ _).alloc (Nat.le_refl _) _).alloc (by simp) _).alloc (by simp; omega) _, g1, g2, g3⟩
theorem PqS.set {w W : World} {b : Nat} {v0 v1 k : Int} {ga : Option Addr} {gn gc : Nat} (h : PqS w b v0 v1 k ga gn gc W) (u0 u1 : Int) : PqS w b u0 u1 k ga gn gc ((W.setCell ⟨b, 0, none⟩ (.int .i64 u0)).setCell ⟨b, 1, none⟩ (.int .i64 u1)) := by
  have hf : Fr (fun z => z = b) W ((W.setCell ⟨b, 0, none⟩ (.int .i64 u0)).setCell ⟨b, 1, none⟩ (.int .i64 u1)) := ((Fr.refl (fun z => z = b) W).setCell ⟨b, 0, none⟩ _ (fun _ => rfl)).setCell ⟨b, 1, none⟩ _ (fun _ => rfl)
  have h1 := heap_lt h.g
  have h2 := heap_lt h.z
  exact ⟨setCell_below (setCell_below h.hb _ _ _ (by omega)) _ _ _ (by omega), heap_set (heap_set h.p 0 _) 1 _, (hf.block _ h1 (by omega)).trans h.g, (hf.block _ h2 (by omega)).trans h.z⟩
/-- what the walk wants to know of them -/
def PqC (b b1 b2 : Nat) (v0 v1 : Int) (k : Int) (ga : Option Addr) (gn gc : Nat) (W : World) : Prop :=
  W.cell? ⟨b, 0, none⟩ = some (.int .i64 v0) ∧ W.cell? ⟨b, 1, none⟩ = some (.int .i64 v1) ∧ W.frozen? ⟨b, 0, none⟩ = false ∧ W.frozen? ⟨b, 1, none⟩ = false ∧
  W.cell? ⟨b1, 0, none⟩ = some (.int .i64 k) ∧ W.cell? ⟨b1, 1, none⟩ = some (.slice ga gn gc) ∧ ArP b2 W ∧ b < W.heap.size
theorem PqS.cells {w W : World} {b b1 b2 : Nat} {v0 v1 k : Int} {ga : Option Addr} {gn gc : Nat} (h : PqS w b v0 v1 k ga gn gc W) (h1 : b + 1 = b1) (h2 : b1 + 1 = b2) : PqC b b1 b2 v0 v1 k ga gn gc W := by
  subst h1
  subst h2
  obtain ⟨x0, x1, z0, z1⟩ := row2 h.p
  obtain ⟨y0, y1, -, -⟩ := row2 h.g
  exact ⟨x0, x1, z0, z1, y0, y1, ArP.of h.z, heap_lt h.p⟩
/-- at the end: the place is stored -/
theorem pasA_end {w W w' : World} {b : Nat} {v0 v1 k : Int} {ga : Option Addr} {gn gc : Nat} {R : List (List Int) × Pl × Int} (h : PqS w b v0 v1 k ga gn gc W) (hw : w.heap.size = b) {ra : Option Addr} {rm rc : Nat} (hr : RdL (fun x => W.heap.size ≤ x) w' ra rm rc R.1) (hb : Below W.heap.size W w') (u v : Value) :
    RdL (fun x => b ≤ x) ((w'.setCell ⟨b + 2, 0, none⟩ u).setCell ⟨b + 2, 1, none⟩ v) ra rm rc R.1 ∧ Below b w ((w'.setCell ⟨b + 2, 0, none⟩ u).setCell ⟨b + 2, 1, none⟩ v) := by
  have h2 := h.below hw hb
  have hl := heap_lt h.z
  have hf : Fr (fun z => z = b + 2) w' ((w'.setCell ⟨b + 2, 0, none⟩ u).setCell ⟨b + 2, 1, none⟩ v) := ((Fr.refl (fun z => z = b + 2) w').setCell ⟨b + 2, 0, none⟩ _ (fun _ => rfl)).setCell ⟨b + 2, 1, none⟩ _ (fun _ => rfl)
  exact ⟨(hr.frF hf (fun z hz e => by omega)).mono (fun z hz => by omega), setCell_below (setCell_below h2.hb _ _ _ (by omega)) _ _ _ (by omega)⟩
/-- one of Paste's ways, told -/
theorem PasA.way {w W : World} {b b1 b2 : Nat} {v0 v1 k : Int} {ga : Option Addr} {gn gc : Nat} {R0 : List (List Int)} {R1 R2 : Nat} {R3 : Int} {e : Ending} {w' : World} (h : PasA W (R0, (R1, R2), R3) e w') (hP : PqS w b v0 v1 k ga gn gc W) (hw : w.heap.size = b) (h1 : b + 1 = b1) (h2 : b1 + 1 = b2) :
    ∃ ra rm rc, e = .returned (.tuple #[.slice ra rm rc, .agg #[.int .i64 (R1 : Nat), .int .i64 (R2 : Nat)], .int .i64 R3]) ∧ ArP b2 w' ∧ Hid (∀ u v, RdL (fun x => b ≤ x) ((w'.setCell ⟨b2, 0, none⟩ u).setCell ⟨b2, 1, none⟩ v) ra rm rc R0 ∧ Below b w ((w'.setCell ⟨b2, 0, none⟩ u).setCell ⟨b2, 1, none⟩ v)) := by
  subst h1
  subst h2
  obtain ⟨ra, rm, rc, rfl, hr, hb⟩ := h
  have h3 := hP.below hw hb
  exact ⟨ra, rm, rc, rfl, ArP.of h3.z, fun u v => pasA_end (R := (R0, (R1, R2), R3)) hP hw hr hb u v⟩
set_option maxHeartbeats 4000000 in
theorem kpaste_arg (v : Value) (p : Po) (G : Nat → Prop) (ga : Option Addr) (gn gc : Nat) (GL : List (List Int)) (k : Int) (bh : Bool) (m : Int) (w : World) (hg : RdL G w ga gn gc GL) (h : heldB k GL = false) :
    Calls Try.prog 22 #[v, p.v, rgV k ga gn gc, .bool bh, .int .i64 m] w fun e w' => e = .returned (.tuple #[.slice none 0 0, plV (0, 0), .int .i64 1]) ∧ Below w.heap.size w w' := by
  obtain ⟨p1, p2⟩ := p
  obtain ⟨wb, hwb⟩ : ∃ wb, ((w.alloc (.cells #[.int .i64 p1, .int .i64 p2] 24)).alloc (.cells #[.int .i64 k, .slice ga gn gc] 30)).alloc (.cells #[.int .i64 0, .int .i64 0] 24) = wb := ⟨_, rfl⟩
  have hP := pqs_new w p1 p2 k ga gn gc
  rw [hwb] at hP
  obtain ⟨b, hbe⟩ : ∃ b, w.heap.size = b := ⟨_, rfl⟩
  obtain ⟨b1, hb1⟩ : ∃ b1, b + 1 = b1 := ⟨_, rfl⟩
  obtain ⟨b2, hb2⟩ : ∃ b2, b + 2 = b2 := ⟨_, rfl⟩
  have hb3 : b1 + 1 = b2 := by omega
  have hbw := hP.hb
  have HHE : Hid (∀ W, W = wb → Calls Try.prog 52 #[rgV k ga gn gc] W fun e w' => e = .returned (.bool false) ∧ ArP b2 w' ∧ Hid (Below b w w')) := by
    rintro W rfl
    refine (kheld_any G k ga gn gc GL W (hg.below hbw)).mono ?_
    rintro e w' ⟨rfl, hb⟩
    have h2 := hP.below rfl hb
    rw [hbe] at h2
    exact ⟨by rw [h], by rw [← hb2]; exact ArP.of h2.z, h2.hb⟩
  have HBE := Lib.hid hbe
  have HB1 := Lib.hid hb1
  have HB2 := Lib.hid hb3
  clear hb3
  have HW := Lib.hid hwb
  rw [hbe] at hP
  obtain ⟨x0, x1, z0, z1, y0, y1, ⟨u0, u1, u2, u3, u4⟩, xl⟩ := hP.cells hb1 HB2.out
  have hlt : b1 < wb.heap.size := by omega
  have h02 : b ≤ b2 := by omega
  rw [hbe]
  clear hg h hwb hP hbe hb1 hb2 hbw
  unfold rgV at HHE ⊢
  show Calls Try.prog _ #[_, .agg #[.int .i64 p1, .int .i64 p2], _, _, _] w _
  go_enter Try.func22, Try.ntmps22
  go_upto_region 1 with fail
  rw [HBE.out, HW.out, HB1.out, HB2.out]
  go_wp2_with (go_at_call 52; (refine (HHE.out _ rfl).mono ?_); rintro e w1 ⟨rfl, ⟨t0, t1, t2, t3, t4⟩, HB⟩)
  refine bodyPost_ret (v := .tuple #[.slice none 0 0, .agg #[.int .i64 0, .int .i64 0], .int .i64 1]) ?_ rfl ⟨rfl, ?_⟩
  · rw [results_tctK rfl]
    go_simp
    first | rfl | done
  · (repeat' (first | (with_reducible exact HB.out) | (with_reducible refine setCell_below ?_ _ _ _ ?_) | omega))
set_option maxHeartbeats 4000000 in
theorem kpaste_range (a : Option Addr) (c : Nat) (p : Po) (G : Nat → Prop) (ga : Option Addr) (gn gc : Nat) (GL : List (List Int)) (k : Int) (bh : Bool) (m : Int) (w : World) (hg : RdL G w ga gn gc GL) (h : heldB k GL = true) :
    Calls Try.prog 22 #[.slice a 0 c, p.v, rgV k ga gn gc, .bool bh, .int .i64 m] w fun e w' => e = .returned (.tuple #[.slice none 0 0, plV (0, 0), .int .i64 2]) ∧ Below w.heap.size w w' := by
  obtain ⟨p1, p2⟩ := p
  obtain ⟨wb, hwb⟩ : ∃ wb, ((w.alloc (.cells #[.int .i64 p1, .int .i64 p2] 24)).alloc (.cells #[.int .i64 k, .slice ga gn gc] 30)).alloc (.cells #[.int .i64 0, .int .i64 0] 24) = wb := ⟨_, rfl⟩
  have hP := pqs_new w p1 p2 k ga gn gc
  rw [hwb] at hP
  obtain ⟨b, hbe⟩ : ∃ b, w.heap.size = b := ⟨_, rfl⟩
  obtain ⟨b1, hb1⟩ : ∃ b1, b + 1 = b1 := ⟨_, rfl⟩
  obtain ⟨b2, hb2⟩ : ∃ b2, b + 2 = b2 := ⟨_, rfl⟩
  have hb3 : b1 + 1 = b2 := by omega
  have hbw := hP.hb
  have HHE : Hid (∀ W, W = wb → Calls Try.prog 52 #[rgV k ga gn gc] W fun e w' => e = .returned (.bool true) ∧ ArP b2 w' ∧ Hid (Below b w w')) := by
    rintro W rfl
    refine (kheld_any G k ga gn gc GL W (hg.below hbw)).mono ?_
    rintro e w' ⟨rfl, hb⟩
    have h2 := hP.below rfl hb
    rw [hbe] at h2
    exact ⟨by rw [h], by rw [← hb2]; exact ArP.of h2.z, h2.hb⟩
  have HBE := Lib.hid hbe
  have HB1 := Lib.hid hb1
  have HB2 := Lib.hid hb3
  clear hb3
  have HW := Lib.hid hwb
  rw [hbe] at hP
  obtain ⟨x0, x1, z0, z1, y0, y1, ⟨u0, u1, u2, u3, u4⟩, xl⟩ := hP.cells hb1 HB2.out
  have hlt : b1 < wb.heap.size := by omega
  have h02 : b ≤ b2 := by omega
  rw [hbe]
  clear hg h hwb hP hbe hb1 hb2 hbw
  unfold rgV at HHE ⊢
  show Calls Try.prog _ #[_, .agg #[.int .i64 p1, .int .i64 p2], _, _, _] w _
  go_enter Try.func22, Try.ntmps22
  go_upto_region 1 with fail
  rw [HBE.out, HW.out, HB1.out, HB2.out]
  go_wp2_with (go_at_call 52; (refine (HHE.out _ rfl).mono ?_); rintro e w1 ⟨rfl, ⟨t0, t1, t2, t3, t4⟩, HB⟩)
  refine bodyPost_ret (v := .tuple #[.slice none 0 0, .agg #[.int .i64 0, .int .i64 0], .int .i64 2]) ?_ rfl ⟨rfl, ?_⟩
  · rw [results_tctK rfl]
    go_simp
    first | rfl | done
  · (repeat' (first | (with_reducible exact HB.out) | (with_reducible refine setCell_below ?_ _ _ _ ?_) | omega))
set_option maxHeartbeats 8000000 in
theorem kpaste_ok (F G : Nat → Prop) (a : Option Addr) (n c : Nat) (L : List (List Int)) (ga : Option Addr) (gn gc : Nat) (GL : List (List Int)) (p : Po) (k : Int) (bh : Bool) (m : Int) (w : World) (h : RdL F w a n c L) (hs : sizeN (lens L) ≤ 65536) (hpl : plainL L) (hg : RdL G w ga gn gc GL) (hgs : sizeN (lens GL) ≤ 65536) (hh : heldB k GL = true) (hL0 : L ≠ []) (hp : i64p p) (hm : i64b m) :
    Calls Try.prog 22 #[.slice a n c, p.v, rgV k ga gn gc, .bool bh, .int .i64 m] w (PasA w (pasteR L p k GL bh m)) := by
  have hl := h.len
  have hok : okP L (clipZ L p) := clipP_ok hL0 _ _
  have hcolm := colR_min hok
  have hcle := colR_le hok bh
  obtain ⟨N, hN⟩ : ∃ N : Nat, max m 1 = (N : Int) := ⟨(max m 1).toNat, by omega⟩
  obtain ⟨hG0, hGp, hk1, hk2⟩ : GL ≠ [] ∧ plainL GL ∧ 0 ≤ k ∧ k ≤ 2 := by
    unfold heldB at hh
    simp only [Bool.and_eq_true, decide_eq_true_eq, Bool.not_eq_true'] at hh
    exact ⟨hh.2, plain_iff.1 hh.1.1, hh.1.2.1, hh.1.2.2⟩
  obtain ⟨lb, lo, rfl, hlb, -, hrow⟩ := h.at_ (by have := hok.1; omega)
  obtain ⟨⟨R0, ⟨R1, R2⟩, R3⟩, hR⟩ : ∃ R, pasteR L p k GL bh m = R := ⟨_, rfl⟩
  rw [hR]
  obtain ⟨C, hC⟩ : ∃ C, colR L (clipZ L p) bh = C := ⟨_, rfl⟩
  obtain ⟨A, hA⟩ : ∃ A, (if bh then (clipZ L p).1 + 1 else (clipZ L p).1) = A := ⟨_, rfl⟩
  have hx : L[(clipZ L p).1]? = some (lnL L (clipZ L p).1) := by unfold lnL; rw [List.getD_eq_getElem?_getD, List.getElem?_eq_getElem hok.1]; rfl
  obtain ⟨xa, xc, hcx, hrdx, -⟩ := hrow _ _ hx
  have hxl := sizeN_mem (List.mem_map.2 ⟨_, List.mem_of_getElem? hx, rfl⟩ : List.length (lnL L (clipZ L p).1) ∈ List.map List.length L)
  have hxl2 : (lnL L (clipZ L p).1).length ≤ 65536 := by unfold lens at hs; omega
  have hcnt := size_count L
  obtain ⟨wb, hwb⟩ : ∃ wb, ((w.alloc (.cells #[.int .i64 p.l, .int .i64 p.c] 24)).alloc (.cells #[.int .i64 k, .slice ga gn gc] 30)).alloc (.cells #[.int .i64 0, .int .i64 0] 24) = wb := ⟨_, rfl⟩
  have hP := pqs_new w p.l p.c k ga gn gc
  rw [hwb] at hP
  obtain ⟨b, hbe⟩ : ∃ b, w.heap.size = b := ⟨_, rfl⟩
  obtain ⟨b1, hb1⟩ : ∃ b1, b + 1 = b1 := ⟨_, rfl⟩
  obtain ⟨b2, hb2⟩ : ∃ b2, b + 2 = b2 := ⟨_, rfl⟩
  have hb3 : b1 + 1 = b2 := by omega
  rw [hbe] at hP
  have K0 : Hid (∀ W v0 v1, k = 0 → PqS w b v0 v1 k ga gn gc W → Calls Try.prog 56 #[.slice (some ⟨lb, lo, none⟩) n c, plV (clipZ L p), .int .i64 (C : Nat), .slice ga gn gc, .int .i64 (N : Nat)] W fun e w' => ∃ ra rm rc, e = .returned (.tuple #[.slice ra rm rc, .agg #[.int .i64 (R1 : Nat), .int .i64 (R2 : Nat)], .int .i64 R3]) ∧ ArP b2 w' ∧ Hid (∀ u v, RdL (fun x => b ≤ x) ((w'.setCell ⟨b2, 0, none⟩ u).setCell ⟨b2, 1, none⟩ v) ra rm rc R0 ∧ Below b w ((w'.setCell ⟨b2, 0, none⟩ u).setCell ⟨b2, 1, none⟩ v))) := by
    rintro W v0 v1 rfl hW
    have hbW := hW.hb
    rw [← hbe] at hbW
    have hK := kin0 F G _ n c L ga gn gc GL p bh m N W (h.below hbW) hs hpl (hg.below hbW) hgs hG0 hL0 hGp hm hN
    rw [hC, hR] at hK
    exact hK.mono fun e w' hh => hh.way hW hbe hb1 hb3
  have K1 : Hid (∀ W v0 v1, k = 1 → PqS w b v0 v1 k ga gn gc W → Calls Try.prog 54 #[.slice (some ⟨lb, lo, none⟩) n c, .int .i64 (A : Nat), .slice ga gn gc, .int .i64 (N : Nat)] W fun e w' => ∃ ra rm rc, e = .returned (.tuple #[.slice ra rm rc, .agg #[.int .i64 (R1 : Nat), .int .i64 (R2 : Nat)], .int .i64 R3]) ∧ ArP b2 w' ∧ Hid (∀ u v, RdL (fun x => b ≤ x) ((w'.setCell ⟨b2, 0, none⟩ u).setCell ⟨b2, 1, none⟩ v) ra rm rc R0 ∧ Below b w ((w'.setCell ⟨b2, 0, none⟩ u).setCell ⟨b2, 1, none⟩ v))) := by
    rintro W v0 v1 rfl hW
    have hbW := hW.hb
    rw [← hbe] at hbW
    have hK := kin1 F G _ n c L ga gn gc GL p bh m N A W (h.below hbW) hs (hg.below hbW) hgs hG0 hL0 hGp hm hN hA.symm
    rw [hR] at hK
    exact hK.mono fun e w' hh => hh.way hW hbe hb1 hb3
  have K2 : Hid (∀ W v0 v1, k = 2 → PqS w b v0 v1 k ga gn gc W → Calls Try.prog 55 #[.slice (some ⟨lb, lo, none⟩) n c, plV ((clipZ L p).1, C), .slice ga gn gc, .int .i64 (N : Nat)] W fun e w' => ∃ ra rm rc, e = .returned (.tuple #[.slice ra rm rc, .agg #[.int .i64 (R1 : Nat), .int .i64 (R2 : Nat)], .int .i64 R3]) ∧ ArP b2 w' ∧ Hid (∀ u v, RdL (fun x => b ≤ x) ((w'.setCell ⟨b2, 0, none⟩ u).setCell ⟨b2, 1, none⟩ v) ra rm rc R0 ∧ Below b w ((w'.setCell ⟨b2, 0, none⟩ u).setCell ⟨b2, 1, none⟩ v))) := by
    rintro W v0 v1 rfl hW
    have hbW := hW.hb
    rw [← hbe] at hbW
    have hK := kin2 F G _ n c L ga gn gc GL p bh m N W (h.below hbW) hs (hg.below hbW) hgs hG0 hL0 hGp hm hN
    rw [hC, hR] at hK
    exact hK.mono fun e w' hh => hh.way hW hbe hb1 hb3
  have HHE : Hid (∀ W, W = wb → Calls Try.prog 52 #[.agg #[.int .i64 k, .slice ga gn gc]] W fun e w' => e = .returned (.bool true) ∧ PqC b b1 b2 p.l p.c k ga gn gc w' ∧ Hid (PqS w b p.l p.c k ga gn gc w')) := by
    rintro W rfl
    have hbW := hP.hb
    rw [← hbe] at hbW
    refine (kheld_any G k ga gn gc GL W (hg.below hbW)).mono ?_
    rintro e w' ⟨rfl, hb⟩
    have h2 := hP.below hbe hb
    exact ⟨by rw [hh], h2.cells hb1 hb3, h2⟩
  have HCLIP : Hid (∀ W, Hid (PqS w b p.l p.c k ga gn gc W) → Calls Try.prog 53 #[.slice (some ⟨lb, lo, none⟩) n c, .agg #[.int .i64 p.l, .int .i64 p.c]] W fun e w' => e = .returned (plV (clipZ L p)) ∧ PqC b b1 b2 p.l p.c k ga gn gc w' ∧ Hid (PqS w b p.l p.c k ga gn gc w')) := by
    intro W hW
    have hbW := hW.out.hb
    rw [← hbe] at hbW
    refine (wclip_any F _ n c L p W (h.below hbW) hp).mono ?_
    rintro e w' ⟨rfl, hb⟩
    have h2 := hW.out.below hbe hb
    exact ⟨rfl, h2.cells hb1 hb3, h2⟩
  have HROW : Hid (∀ W v0 v1, PqS w b v0 v1 k ga gn gc W → W.cell? ⟨lb, lo + (clipZ L p).1, none⟩ = some (.slice xa (lnL L (clipZ L p).1).length xc)) := by
    intro W v0 v1 hW
    have hbW := hW.hb
    rw [← hbe] at hbW
    exact (hbW.cell (p := ⟨lb, lo + (clipZ L p).1, none⟩) hlb).trans hcx
  obtain ⟨⟨q1, q2⟩, hq⟩ : ∃ q, clipZ L p = q := ⟨_, rfl⟩
  rw [hq] at K0 K2 HCLIP HROW hA hC hcolm hok hxl2 hcle
  obtain ⟨y1, hy1⟩ : ∃ y1, (lnL L q1).length = y1 := ⟨_, rfl⟩
  simp only at hok HROW hxl2 hA hcle hcolm K2
  have hq1n : q1 < n := by have := hok.1; simp only at this; omega
  have hq2y : q2 ≤ y1 := by have := hok.2; simp only at this; omega
  rw [hy1] at HROW hxl2 hcolm hcle
  have HBE := Lib.hid hbe
  have HB1 := Lib.hid hb1
  have HB2 := Lib.hid hb3
  have HW := Lib.hid hwb
  obtain ⟨x0, x1, z0, z1, y0, yy1, ⟨u0, u1, u2, u3, u4⟩, xl⟩ := hP.cells hb1 HB2.out
  have HHN := Lib.hid hN
  have HA := Lib.hid hA
  have HC := Lib.hid hC
  have HCM := Lib.hid hcolm
  have hmx := hN
  have hNb : N ≤ 9223372036854775807 := by have := hm.1; have := hm.2; omega
  have hbl : b1 < wb.heap.size := by omega
  have hbl2 : b < b1 := by omega
  have hq1i : (q1 : Int) < (n : Int) := by omega
  have hq10 : (0 : Int) ≤ (q1 : Int) := by omega
  have hn6 : n ≤ 65536 := by omega
  have hn0 : ¬ n = 0 := by omega
  have hn0i : ¬ (n : Int) = 0 := by omega
  clear h hg hwb hP hbe hs hpl hgs hh hL0 hp hm hl hok hcolm hN hR hC hA hx hcx hrdx hxl hcnt hlb hrow hG0 hGp hy1 hq
  show Calls Try.prog _ #[_, .agg #[.int .i64 p.l, .int .i64 p.c], .agg #[.int .i64 k, .slice ga gn gc], _, _] w _
  unfold plV at HCLIP K0 K2
  go_enter Try.func22, Try.ntmps22
  go_upto_region 1 with fail
  rw [HBE.out, HW.out, HB1.out, HB2.out]
  clear hb1 hb2 hb3
  go_upto_region 3 with (go_at_call 52; (refine (HHE.out _ rfl).mono ?_); rintro e w1 ⟨rfl, ⟨x0, x1, z0, z1, y0, yy1, ⟨u0, u1, u2, u3, u4⟩, xl⟩, HP1⟩)
  go_upto_region 6 with (go_at_call 53; (refine (HCLIP.out _ HP1).mono ?_); rintro e w2 ⟨rfl, ⟨t0, t1, t2, t3, s0, s1, ⟨r0, r1, r2, r3, r4⟩, tl⟩, HP2⟩)
  have HP3 := Lib.hid (HP2.out.set (q1 : Int) (q2 : Int))
  obtain ⟨w3, hw3⟩ : ∃ w3, (w2.setCell ⟨b, 0, none⟩ (.int .i64 (q1 : Nat))).setCell ⟨b, 1, none⟩ (.int .i64 (q2 : Nat)) = w3 := ⟨_, rfl⟩
  rw [hw3] at HP3 ⊢
  clear hw3 t0 t1 t2 t3 s0 s1 tl r0 r1 r2 r3 r4 HP1 HP2 HCLIP HHE x0 x1 z0 z1 y0 yy1 u0 u1 u2 u3 u4 xl
  obtain ⟨x0, x1, z0, z1, y0, yy1, ⟨u0, u1, u2, u3, u4⟩, xl⟩ := HP3.out.cells HB1.out HB2.out
  have HCC : Hid (bh = true → min ((q2 : Int) + 1) (y1 : Int) = (C : Int)) := by
    intro e
    have h1 := HC.out
    have h2 := HCM.out
    rw [e] at h1
    rw [h1] at h2
    omega
  have HAA : Hid (A = if bh then q1 + 1 else q1) := HA.out.symm
  have HCF : Hid (bh = false → C = q2) := by
    intro e
    have h1 := HC.out
    rw [e] at h1
    rw [← h1]
    unfold colR
    simp
  clear HC HA HCM
  go_cut [13, 14] (fun v13 v14 W => v13 = .int .i64 (q1 : Nat) ∧ v14 = .int .i64 (q2 : Nat) ∧ Hid (PqS w b (q1 : Int) (q2 : Int) k ga gn gc W))
  case first =>
    go_quiet (fail)
    go_wp2_with fail
    go_meet
    exact ⟨rfl, rfl, HP3.out.below HBE.out (bdrK (Below.refl _ _) _)⟩
  case rest =>
    obtain ⟨rfl, rfl, HP4⟩ := hcut
    obtain ⟨w4, hw4⟩ : ∃ w4, w4 = wc := ⟨_, rfl⟩
    subst hw4
    clear HP3 x0 x1 z0 z1 y0 yy1 u0 u1 u2 u3 u4 xl
    obtain ⟨x0, x1, z0, z1, y0, yy1, ⟨u0, u1, u2, u3, u4⟩, xl⟩ := HP4.out.cells HB1.out HB2.out
    have hrow4 := HROW.out _ _ _ HP4.out
    have HP5 := HP4
    cases bh with
    | false =>
      obtain rfl := HCF.out rfl
      have hA0 := HAA.out
      simp only [Bool.false_eq_true, if_false] at hA0
      subst hA0
      go_upto_region 9 with fail
      rcases (by omega : k = 1 ∨ k = 2 ∨ k = 0) with e | e | e
      · subst e
        go_wp2_with (go_at_call 54; (refine (K1.out _ _ _ rfl (by first | (with_reducible exact HP5.out) | (with_reducible exact HP5.out.below HBE.out (Below.refl _ _).drew) | exact HP5.out.below HBE.out (bdrK (Below.refl _ _) _) | exact HP5.out.below HBE.out (Below.refl _ _).drew.drew)).mono ?_); rintro e w6 ⟨ra, rm, rc, rfl, ⟨t0, t1, t2, t3, t4⟩, HF⟩)
        refine bodyPost_ret (v := .tuple #[.slice ra rm rc, .agg #[.int .i64 (R1 : Nat), .int .i64 (R2 : Nat)], .int .i64 R3]) ?_ rfl ⟨ra, rm, rc, rfl, ?_⟩
        · rw [results_tctK rfl]
          go_simp
          first | rfl | done
        · rw [HBE.out]; exact HF.out _ _
      · subst e
        go_wp2_with (go_at_call 55; (refine (K2.out _ _ _ rfl (by first | (with_reducible exact HP5.out) | (with_reducible exact HP5.out.below HBE.out (Below.refl _ _).drew) | exact HP5.out.below HBE.out (bdrK (Below.refl _ _) _) | exact HP5.out.below HBE.out (Below.refl _ _).drew.drew)).mono ?_); rintro e w6 ⟨ra, rm, rc, rfl, ⟨t0, t1, t2, t3, t4⟩, HF⟩)
        refine bodyPost_ret (v := .tuple #[.slice ra rm rc, .agg #[.int .i64 (R1 : Nat), .int .i64 (R2 : Nat)], .int .i64 R3]) ?_ rfl ⟨ra, rm, rc, rfl, ?_⟩
        · rw [results_tctK rfl]
          go_simp
          first | rfl | done
        · rw [HBE.out]; exact HF.out _ _
      · subst e
        go_wp2_with (go_at_call 56; (refine (K0.out _ _ _ rfl (by first | (with_reducible exact HP5.out) | (with_reducible exact HP5.out.below HBE.out (Below.refl _ _).drew) | exact HP5.out.below HBE.out (bdrK (Below.refl _ _) _) | exact HP5.out.below HBE.out (Below.refl _ _).drew.drew)).mono ?_); rintro e w6 ⟨ra, rm, rc, rfl, ⟨t0, t1, t2, t3, t4⟩, HF⟩)
        refine bodyPost_ret (v := .tuple #[.slice ra rm rc, .agg #[.int .i64 (R1 : Nat), .int .i64 (R2 : Nat)], .int .i64 R3]) ?_ rfl ⟨ra, rm, rc, rfl, ?_⟩
        · rw [results_tctK rfl]
          go_simp
          first | rfl | done
        · rw [HBE.out]; exact HF.out _ _
    | true =>
      have hmn := HCC.out rfl
      have hA0 := HAA.out
      simp only [if_true] at hA0
      have hA1 : (q1 : Int) + 1 = (A : Int) := by omega
      have hA2 : A ≤ 131072 := by omega
      have hq2b : q2 ≤ 131072 := by omega
      clear hA0
      go_upto_region 8 with fail
      go_region
      all_goals
        go_upto_region 9 with fail
        rcases (by omega : k = 1 ∨ k = 2 ∨ k = 0) with e | e | e
        · subst e
          go_wp2_with (go_at_call 54; (refine (K1.out _ _ _ rfl (by first | (with_reducible exact HP5.out) | (with_reducible exact HP5.out.below HBE.out (Below.refl _ _).drew) | exact HP5.out.below HBE.out (bdrK (Below.refl _ _) _) | exact HP5.out.below HBE.out (Below.refl _ _).drew.drew)).mono ?_); rintro e w6 ⟨ra, rm, rc, rfl, ⟨t0, t1, t2, t3, t4⟩, HF⟩)
          refine bodyPost_ret (v := .tuple #[.slice ra rm rc, .agg #[.int .i64 (R1 : Nat), .int .i64 (R2 : Nat)], .int .i64 R3]) ?_ rfl ⟨ra, rm, rc, rfl, ?_⟩
          · rw [results_tctK rfl]
            go_simp
            first | rfl | done
          · rw [HBE.out]; exact HF.out _ _
        · subst e
          go_wp2_with (go_at_call 55; (refine (K2.out _ _ _ rfl (by first | (with_reducible exact HP5.out) | (with_reducible exact HP5.out.below HBE.out (Below.refl _ _).drew) | exact HP5.out.below HBE.out (bdrK (Below.refl _ _) _) | exact HP5.out.below HBE.out (Below.refl _ _).drew.drew)).mono ?_); rintro e w6 ⟨ra, rm, rc, rfl, ⟨t0, t1, t2, t3, t4⟩, HF⟩)
          refine bodyPost_ret (v := .tuple #[.slice ra rm rc, .agg #[.int .i64 (R1 : Nat), .int .i64 (R2 : Nat)], .int .i64 R3]) ?_ rfl ⟨ra, rm, rc, rfl, ?_⟩
          · rw [results_tctK rfl]
            go_simp
            first | rfl | done
          · rw [HBE.out]; exact HF.out _ _
        · subst e
          go_wp2_with (go_at_call 56; (refine (K0.out _ _ _ rfl (by first | (with_reducible exact HP5.out) | (with_reducible exact HP5.out.below HBE.out (Below.refl _ _).drew) | exact HP5.out.below HBE.out (bdrK (Below.refl _ _) _) | exact HP5.out.below HBE.out (Below.refl _ _).drew.drew)).mono ?_); rintro e w6 ⟨ra, rm, rc, rfl, ⟨t0, t1, t2, t3, t4⟩, HF⟩)
          refine bodyPost_ret (v := .tuple #[.slice ra rm rc, .agg #[.int .i64 (R1 : Nat), .int .i64 (R2 : Nat)], .int .i64 R3]) ?_ rfl ⟨ra, rm, rc, rfl, ?_⟩
          · rw [results_tctK rfl]
            go_simp
            first | rfl | done
          · rw [HBE.out]; exact HF.out _ _
end Go.Proofs.Ytfldjoiohejilaa.U

namespace Go.Proofs.Ytfldjoiohejilaa.U
open Go.RowKit
set_option linter.unusedVariables false
set_option linter.unusedSimpArgs false
set_option maxRecDepth 100000

theorem kpasteK : PasteK 22 := by
  intro F G a n c L ga gn gc GL p k bh m w h hs hpl hg hgs hp hk hm
  by_cases hh : heldB k GL = true
  · obtain ⟨hG0, hGp, hk1, hk2⟩ : GL ≠ [] ∧ plainL GL ∧ 0 ≤ k ∧ k ≤ 2 := by
      unfold heldB at hh
      simp only [Bool.and_eq_true, decide_eq_true_eq, Bool.not_eq_true'] at hh
      exact ⟨hh.2, plain_iff.1 hh.1.1, hh.1.2.1, hh.1.2.2⟩
    by_cases hL : L = []
    · have hl := h.len
      rw [hL] at hl ⊢
      simp only [List.length_nil] at hl
      subst hl
      rw [pasteR_range hG0 hGp hk1 hk2]
      refine (kpaste_range a c p G ga gn gc GL k bh m w hg hh).mono ?_
      rintro e w' ⟨rfl, hb⟩
      exact ⟨none, 0, 0, rfl, RdL.none0 _ _, hb⟩
    · exact kpaste_ok F G a n c L ga gn gc GL p k bh m w h hs hpl hg hgs hh hL hp hm
  · have hh2 : heldB k GL = false := by simpa using hh
    rw [pasteR_arg (by
      by_cases h1 : plainL GL
      · by_cases h2 : 0 ≤ k ∧ k ≤ 2
        · by_cases h3 : GL = []
          · exact .inr (.inl h3)
          · exfalso
            apply hh
            unfold heldB
            simp only [Bool.and_eq_true, decide_eq_true_eq, Bool.not_eq_true']
            exact ⟨⟨plain_iff.2 h1, h2⟩, h3⟩
        · exact .inl h2
      · exact .inr (.inr h1))]
    refine (kpaste_arg _ p G ga gn gc GL k bh m w hg hh2).mono ?_
    rintro e w' ⟨rfl, hb⟩
    exact ⟨none, 0, 0, rfl, RdL.none0 _ _, hb⟩
end Go.Proofs.Ytfldjoiohejilaa.U
