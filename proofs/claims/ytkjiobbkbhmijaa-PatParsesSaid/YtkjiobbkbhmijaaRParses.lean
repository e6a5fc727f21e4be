/-
  The walk of PatParses.
-/
import Derived.Test.YtkjiobbkbhmijaaRfParse
import Derived.Test.YtkjiobbkbhmijaaRfCount
import Derived.Test.YtkjiobbkbhmijaaRDec
namespace Go.Proofs.Ytkjiobbkbhmijaa.U
open Go.RowKit
set_option linter.unusedVariables false
set_option linter.unusedSimpArgs false
set_option maxRecDepth 100000

/-- a box that holds a part whose blocks are F -/
def BxP (F : Nat → Prop) (g : Nat) (y : Re) (w : World) : Prop :=
  ∃ k4 r4 sa4 sn4 sc4 nt4 l4 h4 pa4 pn4 pc4, w.heap[g]? = some (.cells #[.int .i64 k4, .int .i32 r4, .slice sa4 sn4 sc4, .bool nt4, .int .i64 l4, .int .i64 h4, .slice pa4 pn4 pc4] 26 (0, 0)) ∧ ReAt F w [.int .i64 k4, .int .i32 r4, .slice sa4 sn4 sc4, .bool nt4, .int .i64 l4, .int .i64 h4, .slice pa4 pn4 pc4] y
theorem BxP.below {F : Nat → Prop} {g : Nat} {y : Re} {w w' : World} (h : BxP F g y w) (hb : Below w.heap.size w w') : BxP F g y w' := by
  obtain ⟨k4, r4, sa4, sn4, sc4, nt4, l4, h4, pa4, pn4, pc4, h1, h2⟩ := h
  exact ⟨k4, r4, sa4, sn4, sc4, nt4, l4, h4, pa4, pn4, pc4, (hb.block _ (heap_lt h1)).trans h1, ReAt.frF (Fr.of_below (fun _ => False) hb) (fun _ _ h => h) _ h2⟩
theorem same_selfP {x : Re} {F G : Nat → Prop} {w : World} {v u : List Value} (hx : ReAt F w v x) (hy : ReAt G w u x) (W : World) (hW : Below w.heap.size w W) :
    Calls Try.prog 10 #[.agg v.toArray, .agg u.toArray] W fun e w' => e = .returned (.bool true) ∧ Below W.heap.size W w' := by
  have h := same_any x x F G v u W (ReAt.frF (Fr.of_below (fun _ => False) hW) (fun _ _ h => h) _ hx) (ReAt.frF (Fr.of_below (fun _ => False) hW) (fun _ _ h => h) _ hy)
  rw [(Re.same_iff _ _).2 rfl] at h
  exact h
def erP (r : Rs (Re × Nat)) : Int :=
  match r with
  | .error c => c
  | .ok _ => 0
/-- the part that is told, the empty one beside a fault -/
def yOf (r : Rs (Re × Nat)) : Re :=
  match r with
  | .error _ => Re.one 0
  | .ok (y, _) => y
/-- what a reading tells, in the box behind the call -/
theorem PrAns.box {w w' : World} {r : Rs (Re × Nat)} {e : Ending} (h : PrAns w r e w') : ∃ k4 r4 sa4 sn4 sc4 nt4 l4 h4 pa4 pn4 pc4 w9, e = .returned (.tuple #[.agg #[.int .i64 k4, .int .i32 r4, .slice sa4 sn4 sc4, .bool nt4, .int .i64 l4, .int .i64 h4, .slice pa4 pn4 pc4], .int .i64 (erP r)]) ∧ w'.alloc (.cells #[.int .i64 k4, .int .i32 r4, .slice sa4 sn4 sc4, .bool nt4, .int .i64 l4, .int .i64 h4, .slice pa4 pn4 pc4] 26) = w9 ∧ Hid (BxP (New w w') w'.heap.size (yOf r) w9 ∧ Below w.heap.size w w9) := by
  match r, h with
  | .error c, ⟨he, hb⟩ =>
    have hb9 := bal w' (.cells #[.int .i64 0, .int .i32 0, .slice none 0 0, .bool false, .int .i64 0, .int .i64 0, .slice none 0 0] 26)
    exact ⟨0, 0, none, 0, 0, false, 0, 0, none, 0, 0, _, he, rfl, ⟨0, 0, none, 0, 0, false, 0, 0, none, 0, 0, heap_alloc_new w' _, ReAt.zero _ _⟩, hb.trans (hb9.mono hb.size)⟩
  | .ok (y, n), ⟨k4, r4, sa4, sn4, sc4, nt4, l4, h4, pa4, pn4, pc4, he, hre, hb⟩ =>
    have hb9 := bal w' (.cells #[.int .i64 k4, .int .i32 r4, .slice sa4 sn4 sc4, .bool nt4, .int .i64 l4, .int .i64 h4, .slice pa4 pn4 pc4] 26)
    exact ⟨k4, r4, sa4, sn4, sc4, nt4, l4, h4, pa4, pn4, pc4, _, he, rfl, ⟨k4, r4, sa4, sn4, sc4, nt4, l4, h4, pa4, pn4, pc4, heap_alloc_new w' _, ReAt.frF (Fr.of_below (fun _ => False) hb9) (fun _ _ h => h) _ hre⟩, hb.trans (hb9.mono hb.size)⟩
theorem yOf_facts (p : List Int) : (yOf (parse p)).sz ≤ 400 ∧ (yOf (parse p)).cnt = grpsOf (parse p) := by
  cases h : parse p with
  | error c => exact ⟨by simp [yOf, Re.one, Re.sz, szs], by simp [yOf, Re.one, Re.cnt, cnts, grpsOf]⟩
  | ok q =>
    obtain ⟨y, n⟩ := q
    obtain ⟨_, _, _, h3⟩ := parse_ok h
    exact ⟨h3, parse_cnt h⟩
set_option maxHeartbeats 4000000 in
theorem patParses_walk (a : Option Addr) (n c : Nat) (p : List Int) (w : World) (hr : Rd .i32 w a n c p) :
    Calls Try.prog 3 #[.slice a n c] w fun e w' => e = .returned (.bool true) ∧ Below w.heap.size w w' := by
  have hsm := hr.small
  have HR := Lib.hid hr
  clear hr
  by_cases h2000 : 2000 < n
  · have g1 : (2000 : Int) < (n : Int) := by omega
    go_enter Try.func3, Try.ntmps3
    go_wp2
    go_ret
    exact ⟨rfl, Below.refl _ _⟩
  have g1 : ¬ (2000 : Int) < (n : Int) := by omega
  have hb10 := bal w (.cells #[] 21)
  obtain ⟨a2, c2, w2, HU2, H2⟩ := (owr_lit w #[] [] 0 rfl rfl (by omega) (by simp)).app hb10.size (HR.out.below hb10) (by omega)
  rw [Nat.zero_add] at HU2 H2
  have HB2 : Hid (Below w.heap.size w w2) := hb10.trans H2.out.2
  have HM2 : Hid (Rd .i32 w2 a2 n c2 p) := by
    have := H2.out.1.rd
    rw [List.nil_append] at this
    exact this
  obtain ⟨r, hpr⟩ : ∃ r, parse p = r := ⟨_, rfl⟩
  have hyf := yOf_facts p
  rw [hpr] at hyf
  have HP1 : Hid (Calls Try.prog 8 #[.slice a2 n c2] w2 (PrAns w2 r)) := by
    have := parse_any a2 n c2 p w2 HM2.out (by omega)
    rw [hpr] at this
    exact this
  have HP2 : Hid (∀ W, Below w2.heap.size w2 W → Calls Try.prog 9 #[.slice a n c] W (PrAns W r)) := by
    intro W hW
    have := rparse_any a n c p W (HR.out.below (HB2.out.trans (hW.mono HB2.out.size))) (by omega)
    rw [hpr] at this
    exact this
  have HGP : Hid (∀ W, Below w.heap.size w W → Calls Try.prog 11 #[.slice a n c] W fun e w' => e = .returned (.int .i64 (grpsOf r : Nat)) ∧ Below W.heap.size W w') := by
    intro W hW
    have := groups_any a n c p W (HR.out.below hW) (by omega)
    rw [hpr] at this
    exact this
  obtain ⟨G, hG⟩ : ∃ G : Int, ((grpsOf r : Nat) : Int) = G := ⟨_, rfl⟩
  rw [hG] at HGP
  obtain ⟨y, hy⟩ : ∃ y, yOf r = y := ⟨_, rfl⟩
  obtain ⟨er, her⟩ : ∃ er, erP r = er := ⟨_, rfl⟩
  rw [hy] at hyf
  have HYS := Lib.hid hyf.1
  have HYC : Hid (((y.cnt : Nat) : Int) = G) := by show _ = _; rw [hyf.2, hG]
  have HBX : Hid (∀ (W w' : World) (e : Ending), PrAns W r e w' → ∃ k4 r4 sa4 sn4 sc4 nt4 l4 h4 pa4 pn4 pc4 w9, e = .returned (.tuple #[.agg #[.int .i64 k4, .int .i32 r4, .slice sa4 sn4 sc4, .bool nt4, .int .i64 l4, .int .i64 h4, .slice pa4 pn4 pc4], .int .i64 er]) ∧ w'.alloc (.cells #[.int .i64 k4, .int .i32 r4, .slice sa4 sn4 sc4, .bool nt4, .int .i64 l4, .int .i64 h4, .slice pa4 pn4 pc4] 26) = w9 ∧ Hid (BxP (New W w') w'.heap.size y w9 ∧ Below W.heap.size W w9)) := by
    intro W w' e h
    have := h.box
    rw [hy, her] at this
    exact this
  clear hb10 H2 hpr hyf hG hy her
  go_enter Try.func3, Try.ntmps3
  go_upto_region 6 with (first
    | (at_builtin; with_reducible refine Lib.wpList_append_run _ rfl (.tmp 11) (.tmp 12) _ _ rfl _ _ rfl rfl _ _ (HU2.out _) ?_)
    | (go_at_call 8; refine HP1.out.mono ?_; intro e wa hh; obtain ⟨k3, r3, sa3, sn3, sc3, nt3, l3, h3, pa3, pn3, pc3, wa2, he, hwa2, HA⟩ := HBX.out w2 wa e hh; subst he; clear hh)
    | (go_at_call 9; refine (HP2.out _ HA.out.2).mono ?_; intro e wb hh; obtain ⟨k4, r4, sa4, sn4, sc4, nt4, l4, h4, pa4, pn4, pc4, wq, he, hwq, HB⟩ := HBX.out wa2 wb e hh; subst he; clear hh))
  (try rw [hwq])
  obtain ⟨GX, hGX⟩ : ∃ GX, wa.heap.size = GX := ⟨_, rfl⟩
  obtain ⟨GY, hGY⟩ : ∃ GY, wb.heap.size = GY := ⟨_, rfl⟩
  obtain ⟨FX, hFX⟩ : ∃ FX, New w2 wa = FX := ⟨_, rfl⟩
  obtain ⟨FY, hFY⟩ : ∃ FY, New wa2 wb = FY := ⟨_, rfl⟩
  rw [hGX, hFX] at HA
  rw [hGY, hFY] at HB
  rw [hGX, hGY]
  have HX : Hid (BxP FX GX y wq) := HA.out.1.below HB.out.2
  have HY : Hid (BxP FY GY y wq) := HB.out.1
  have HQ2 : Hid (Below w2.heap.size w2 wq) := HA.out.2.trans (HB.out.2.mono HA.out.2.size)
  clear HA HB hwa2 hwq hGX hGY hFX hFY
  have HWQ : Hid (Below w.heap.size w wq) := HB2.out.trans (HQ2.out.mono HB2.out.size)
  obtain ⟨kx, rx, sax, snx, scx, ntx, lx, hx, pax, pnx, pcx, hgx, hrex⟩ := HX.out
  obtain ⟨ky, ry, say, sny, scy, nty, ly, hy, pay, pny, pcy, hgy, hrey⟩ := HY.out
  have KS : Hid (∀ W, Below wq.heap.size wq W → W.cell? ⟨GX, 0, none⟩ = some (.int .i64 kx) ∧ W.cell? ⟨GX, 1, none⟩ = some (.int .i32 rx) ∧ W.cell? ⟨GX, 2, none⟩ = some (.slice sax snx scx) ∧ W.cell? ⟨GX, 3, none⟩ = some (.bool ntx) ∧ W.cell? ⟨GX, 4, none⟩ = some (.int .i64 lx) ∧ W.cell? ⟨GX, 5, none⟩ = some (.int .i64 hx) ∧ W.cell? ⟨GX, 6, none⟩ = some (.slice pax pnx pcx) ∧
      W.cell? ⟨GY, 0, none⟩ = some (.int .i64 ky) ∧ W.cell? ⟨GY, 1, none⟩ = some (.int .i32 ry) ∧ W.cell? ⟨GY, 2, none⟩ = some (.slice say sny scy) ∧ W.cell? ⟨GY, 3, none⟩ = some (.bool nty) ∧ W.cell? ⟨GY, 4, none⟩ = some (.int .i64 ly) ∧ W.cell? ⟨GY, 5, none⟩ = some (.int .i64 hy) ∧ W.cell? ⟨GY, 6, none⟩ = some (.slice pay pny pcy)) := by
    intro W hW
    obtain ⟨x0, x1, x2, x3, x4, x5, x6, -⟩ := row7 ((hW.block _ (heap_lt hgx)).trans hgx)
    obtain ⟨y0, y1, y2, y3, y4, y5, y6, -⟩ := row7 ((hW.block _ (heap_lt hgy)).trans hgy)
    exact ⟨x0, x1, x2, x3, x4, x5, x6, y0, y1, y2, y3, y4, y5, y6⟩
  have HSA : Hid (∀ W, Below wq.heap.size wq W → Calls Try.prog 10 #[.agg #[.int .i64 kx, .int .i32 rx, .slice sax snx scx, .bool ntx, .int .i64 lx, .int .i64 hx, .slice pax pnx pcx], .agg #[.int .i64 ky, .int .i32 ry, .slice say sny scy, .bool nty, .int .i64 ly, .int .i64 hy, .slice pay pny pcy]] W fun e w' => e = .returned (.bool true) ∧ Hid (Below wq.heap.size wq w')) := fun W hW => (same_selfP hrex hrey W hW).mono fun e w' h => ⟨h.1, hW.trans (h.2.mono hW.size)⟩
  have HGQ : Hid (∀ W, Below wq.heap.size wq W → Calls Try.prog 11 #[.slice a n c] W fun e w' => e = .returned (.int .i64 G) ∧ Hid (Below wq.heap.size wq w')) := fun W hW => (HGP.out W (HWQ.out.trans (hW.mono HWQ.out.size))).mono fun e w' h => ⟨h.1, hW.trans (h.2.mono hW.size)⟩
  have HCQ : Hid (∀ W, Below wq.heap.size wq W → Calls Try.prog 12 #[.agg #[.int .i64 ky, .int .i32 ry, .slice say sny scy, .bool nty, .int .i64 ly, .int .i64 hy, .slice pay pny pcy]] W fun e w' => e = .returned (.int .i64 G) ∧ Hid (Below wq.heap.size wq w')) := by
    intro W hW
    have h := count_any y FY _ W HYS.out (ReAt.frF (Fr.of_below (fun _ => False) hW) (fun _ _ h => h) y hrey)
    rw [HYC.out] at h
    exact h.mono fun e w' h => ⟨h.1, hW.trans (h.2.mono hW.size)⟩
  have HRQ : Hid (∀ W, Below wq.heap.size wq W → Calls Try.prog 13 #[.slice a2 n c2, .slice a n c] W fun e w' => e = .returned (.bool true) ∧ Hid (Below wq.heap.size wq w')) := fun W hW => (runes_same a2 a n c2 c p W (HM2.out.below (HQ2.out.trans (hW.mono HQ2.out.size))) (HR.out.below (HWQ.out.trans (hW.mono HWQ.out.size)))).mono fun e w' h => ⟨h.1, hW.trans (h.2.mono hW.size)⟩
  have HAQ : Hid (∀ W, Below wq.heap.size wq W → Calls Try.prog 14 #[] W fun e w' => e = .returned (.bool true) ∧ Hid (Below wq.heap.size wq w')) := fun W hW => (awake_any W).mono fun e w' h => ⟨h.1, hW.trans (h.2.mono hW.size)⟩
  clear hgx hrex hgy hrey
  go_region_held3 (fun w' => w'.cell? ⟨GX, 0, none⟩ = some (.int .i64 kx) ∧ w'.cell? ⟨GX, 1, none⟩ = some (.int .i32 rx) ∧ w'.cell? ⟨GX, 2, none⟩ = some (.slice sax snx scx) ∧ w'.cell? ⟨GX, 3, none⟩ = some (.bool ntx) ∧ w'.cell? ⟨GX, 4, none⟩ = some (.int .i64 lx) ∧ w'.cell? ⟨GX, 5, none⟩ = some (.int .i64 hx) ∧ w'.cell? ⟨GX, 6, none⟩ = some (.slice pax pnx pcx) ∧
      w'.cell? ⟨GY, 0, none⟩ = some (.int .i64 ky) ∧ w'.cell? ⟨GY, 1, none⟩ = some (.int .i32 ry) ∧ w'.cell? ⟨GY, 2, none⟩ = some (.slice say sny scy) ∧ w'.cell? ⟨GY, 3, none⟩ = some (.bool nty) ∧ w'.cell? ⟨GY, 4, none⟩ = some (.int .i64 ly) ∧ w'.cell? ⟨GY, 5, none⟩ = some (.int .i64 hy) ∧ w'.cell? ⟨GY, 6, none⟩ = some (.slice pay pny pcy))
    (first | exact KS.out _ (Below.refl _ _).drew | exact KS.out _ h1.out | exact KS.out _ h2.out | exact KS.out _ h3'.out | exact KS.out _ h4'.out | exact KS.out _ h5.out)
    (first
      | (go_at_call 10; refine (HSA.out _ (by first | exact Below.refl _ _ | exact (Below.refl _ _).drew)).mono ?_; rintro e v1 ⟨rfl, h1⟩)
      | (go_at_call 11; refine (HGQ.out _ h1.out).mono ?_; rintro e v2 ⟨rfl, h2⟩)
      | (go_at_call 12; refine (HCQ.out _ h2.out).mono ?_; rintro e v3 ⟨rfl, h3'⟩)
      | (go_at_call 13; refine (HRQ.out _ h3'.out).mono ?_; rintro e v4 ⟨rfl, h4'⟩)
      | (go_at_call 14; refine (HAQ.out _ h4'.out).mono ?_; rintro e v5 ⟨rfl, h5⟩))
  all_goals
    go_wp2_with fail
    go_ret
    exact ⟨rfl, HWQ.out.trans (h5.out.mono HWQ.out.size)⟩
end Go.Proofs.Ytkjiobbkbhmijaa.U
