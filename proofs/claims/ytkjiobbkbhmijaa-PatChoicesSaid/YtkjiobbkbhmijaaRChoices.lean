/-
  The walk of PatChoices.
-/
import Derived.Test.YtkjiobbkbhmijaaRQuotes
import Derived.Test.YtkjiobbkbhmijaaRSize
import Derived.Test.YtkjiobbkbhmijaaRNz
namespace Go.Proofs.Ytkjiobbkbhmijaa.U
open Go.RowKit
set_option linter.unusedVariables false
set_option linter.unusedSimpArgs false
set_option maxRecDepth 100000

/-- a part that was read, in the box behind the call -/
theorem prOk (p : List Int) (n : Nat) (y : Re) (g : Nat) (hp : parse p = .ok (y, g)) (hn : n ≤ 1000000) (a : Option Addr) (c : Nat) (w : World) (hr : Rd .i32 w a n c p) :
    Calls Try.prog 8 #[.slice a n c] w fun e w' => ∃ k4 r4 sa4 sn4 sc4 nt4 l4 h4 pa4 pn4 pc4 w9, e = .returned (.tuple #[.agg #[.int .i64 k4, .int .i32 r4, .slice sa4 sn4 sc4, .bool nt4, .int .i64 l4, .int .i64 h4, .slice pa4 pn4 pc4], .int .i64 0]) ∧ w'.alloc (.cells #[.int .i64 k4, .int .i32 r4, .slice sa4 sn4 sc4, .bool nt4, .int .i64 l4, .int .i64 h4, .slice pa4 pn4 pc4] 26) = w9 ∧ Hid (BxS (New w w') w'.heap.size y w9 ∧ Below w.heap.size w w9) := by
  refine (parse_any a n c p w hr hn).mono ?_
  intro e w8 h
  rw [hp] at h
  obtain ⟨k4, r4, sa4, sn4, sc4, nt4, l4, h4, pa4, pn4, pc4, he, hre, hb⟩ := h
  have hb9 := bal w8 (.cells #[.int .i64 k4, .int .i32 r4, .slice sa4 sn4 sc4, .bool nt4, .int .i64 l4, .int .i64 h4, .slice pa4 pn4 pc4] 26)
  exact ⟨k4, r4, sa4, sn4, sc4, nt4, l4, h4, pa4, pn4, pc4, _, he, rfl, ⟨k4, r4, sa4, sn4, sc4, nt4, l4, h4, pa4, pn4, pc4, heap_alloc_new w8 _, ReAt.frF (Fr.of_below (fun _ => False) hb9) (fun _ _ h => h) _ hre⟩, hb.trans (hb9.mono hb.size)⟩
/-- whatever is read -/
theorem prAny (p : List Int) (n : Nat) (hn : n ≤ 1000000) (a : Option Addr) (c : Nat) (w : World) (hr : Rd .i32 w a n c p) :
    Calls Try.prog 8 #[.slice a n c] w fun e w' => ∃ k4 r4 sa4 sn4 sc4 nt4 l4 h4 pa4 pn4 pc4, e = .returned (.tuple #[.agg #[.int .i64 k4, .int .i32 r4, .slice sa4 sn4 sc4, .bool nt4, .int .i64 l4, .int .i64 h4, .slice pa4 pn4 pc4], .int .i64 (erOf (parse p))]) ∧ Hid (Below w.heap.size w w') := (parse_any a n c p w hr hn).mono fun e w' h => h.any
theorem BxS.part {F : Nat → Prop} {g : Nat} {k r : Int} {nt : Bool} {lo hi : Int} {ps : List Re} {w : World} (h : BxS F g (.mk k r [] nt lo hi ps) w) :
    ∃ sa sc pa pc, w.heap[g]? = some (.cells #[.int .i64 k, .int .i32 r, .slice sa 0 sc, .bool nt, .int .i64 lo, .int .i64 hi, .slice pa ps.length pc] 26 (0, 0)) ∧ ReAt F w [.int .i64 k, .int .i32 r, .slice sa 0 sc, .bool nt, .int .i64 lo, .int .i64 hi, .slice pa ps.length pc] (.mk k r [] nt lo hi ps) ∧
      ∀ (i : Nat) (y : Re), ps[i]? = some y → ∃ b off k8 r8 sa8 sn8 sc8 nt8 l8 h8 pa8 pn8 pc8, pa = some ⟨b, off, none⟩ ∧ b < w.heap.size ∧ ReAt F w [.int .i64 k8, .int .i32 r8, .slice sa8 sn8 sc8, .bool nt8, .int .i64 l8, .int .i64 h8, .slice pa8 pn8 pc8] y ∧
        w.cell? ⟨b, off + i * 7, none⟩ = some (.int .i64 k8) ∧ w.cell? ⟨b, off + i * 7 + 1, none⟩ = some (.int .i32 r8) ∧ w.cell? ⟨b, off + i * 7 + 2, none⟩ = some (.slice sa8 sn8 sc8) ∧ w.cell? ⟨b, off + i * 7 + 3, none⟩ = some (.bool nt8) ∧ w.cell? ⟨b, off + i * 7 + 4, none⟩ = some (.int .i64 l8) ∧ w.cell? ⟨b, off + i * 7 + 5, none⟩ = some (.int .i64 h8) ∧ w.cell? ⟨b, off + i * 7 + 6, none⟩ = some (.slice pa8 pn8 pc8) := by
  obtain ⟨K, R, sa, sn, sc, nt', lo', hi', pa, pn, pc, hg, hre⟩ := h
  obtain ⟨rfl, rfl, hsn, rfl, rfl, rfl, rfl, hget⟩ := hre.parts
  subst hsn
  refine ⟨sa, sc, pa, pc, hg, hre, fun i y hy => ?_⟩
  obtain ⟨b, off, e, v, hv, hc⟩ := hget i y hy
  obtain ⟨k8, r8, sa8, sn8, sc8, nt8, l8, h8, pa8, pn8, pc8, rfl⟩ := hv.rev7
  exact ⟨b, off, k8, r8, sa8, sn8, sc8, nt8, l8, h8, pa8, pn8, pc8, e, block_lt_of_cell (hc 0 _ rfl), hv, hc 0 _ rfl, hc 1 _ rfl, hc 2 _ rfl, hc 3 _ rfl, hc 4 _ rfl, hc 5 _ rfl, hc 6 _ rfl⟩
theorem cells7 {w w' : World} (hb : Below w.heap.size w w') {b o : Nat} (hbl : b < w.heap.size) {v0 v1 v2 v3 v4 v5 v6 : Value} (h : w.cell? ⟨b, o, none⟩ = some v0 ∧ w.cell? ⟨b, o + 1, none⟩ = some v1 ∧ w.cell? ⟨b, o + 2, none⟩ = some v2 ∧ w.cell? ⟨b, o + 3, none⟩ = some v3 ∧ w.cell? ⟨b, o + 4, none⟩ = some v4 ∧ w.cell? ⟨b, o + 5, none⟩ = some v5 ∧ w.cell? ⟨b, o + 6, none⟩ = some v6) :
    w'.cell? ⟨b, o, none⟩ = some v0 ∧ w'.cell? ⟨b, o + 1, none⟩ = some v1 ∧ w'.cell? ⟨b, o + 2, none⟩ = some v2 ∧ w'.cell? ⟨b, o + 3, none⟩ = some v3 ∧ w'.cell? ⟨b, o + 4, none⟩ = some v4 ∧ w'.cell? ⟨b, o + 5, none⟩ = some v5 ∧ w'.cell? ⟨b, o + 6, none⟩ = some v6 := by
  obtain ⟨h0, h1, h2, h3, h4, h5, h6⟩ := h
  exact ⟨(hb.cell (p := ⟨b, o, none⟩) hbl).trans h0, (hb.cell (p := ⟨b, o + 1, none⟩) hbl).trans h1, (hb.cell (p := ⟨b, o + 2, none⟩) hbl).trans h2, (hb.cell (p := ⟨b, o + 3, none⟩) hbl).trans h3, (hb.cell (p := ⟨b, o + 4, none⟩) hbl).trans h4, (hb.cell (p := ⟨b, o + 5, none⟩) hbl).trans h5, (hb.cell (p := ⟨b, o + 6, none⟩) hbl).trans h6⟩
/-- a part beside itself, elsewhere -/
theorem same_self {x : Re} {F G : Nat → Prop} {w : World} {v u : List Value} (hx : ReAt F w v x) (hy : ReAt G w u x) (W : World) (hW : Below w.heap.size w W) :
    Calls Try.prog 10 #[.agg v.toArray, .agg u.toArray] W fun e w' => e = .returned (.bool true) ∧ Below W.heap.size W w' := by
  have h := same_any x x F G v u W (ReAt.frF (Fr.of_below (fun _ => False) hW) (fun _ _ h => h) _ hx) (ReAt.frF (Fr.of_below (fun _ => False) hW) (fun _ _ h => h) _ hy)
  rw [(Re.same_iff _ _).2 rfl] at h
  exact h
theorem parse_n {p : List Int} {x : Re} {n : Nat} (h : parse p = .ok (x, n)) : n ≤ p.length := by
  unfold parse at h
  split at h
  · cases h
  · rename_i x1 l1 n1 h1
    have := alts_n 17 _ _ _ _ _ _ h1
    split at h
    · cases h
    split at h
    · cases h
    simp only [Except.ok.injEq, Prod.mk.injEq] at h
    omega
set_option maxHeartbeats 4000000 in
theorem patChoices_walk0 (a1 a2 : Option Addr) (n1 n2 c1 c2 : Nat) (la lb : List Int) (w : World) (h1 : Rd .i32 w a1 n1 c1 la) (h2 : Rd .i32 w a2 n2 c2 lb) :
    Calls Try.prog 5 #[.slice a1 n1 c1, .slice a2 n2 c2] w fun e w' => e = .returned (.bool true) ∧ Below w.heap.size w w' := by
  have hs1 := h1.small
  have hs2 := h2.small
  have HR1 := Lib.hid h1
  have HR2 := Lib.hid h2
  have HL1 := Lib.hid h1.1
  have HL2 := Lib.hid h2.1
  clear h1 h2
  by_cases h300 : 300 < n1
  · have g1 : (300 : Int) < (n1 : Int) := by omega
    go_enter Try.func5, Try.ntmps5
    go_wp2
    go_ret
    exact ⟨rfl, Below.refl _ _⟩
  have g1 : ¬ (300 : Int) < (n1 : Int) := by omega
  by_cases h301 : 300 < n2
  · have g2 : (300 : Int) < (n2 : Int) := by omega
    go_enter Try.func5, Try.ntmps5
    go_wp2
    go_ret
    exact ⟨rfl, Below.refl _ _⟩
  have g2 : ¬ (300 : Int) < (n2 : Int) := by omega
  have tkA : True := trivial
  have tkB : True := trivial
  cases hpa : parse la with
  | error c =>
    have gc : (c != 0) = true := by simpa using parse_nz hpa
    have HPA := Lib.hid hpa
    clear hpa
    go_enter Try.func5, Try.ntmps5
    go_wp2_with (first
      | (go_at_call 8; have _t := tkA; refine (prErr la n1 c HPA.out (by omega) _ _ w HR1.out).mono ?_; clear tkA _t; rintro e wa ⟨rfl, HA⟩; have HA2 := Lib.hid (btr HA.out (bal wa (.cells #[.int .i64 0, .int .i32 0, .slice none 0 0, .bool false, .int .i64 0, .int .i64 0, .slice none 0 0] 26))))
      | (go_at_call 8; have _t := tkB; refine (prAny lb n2 (by omega) _ _ _ (HR2.out.below HA2.out)).mono ?_; clear tkB _t; rintro e wb ⟨k4, r4, sa4, sn4, sc4, nt4, l4, h4, pa4, pn4, pc4, rfl, HB⟩)
      | (go_at_call 14; refine (awake_any _).mono ?_; rintro e wd ⟨rfl, hb9⟩; have HD := Lib.hid hb9; clear hb9))
    go_ret
    exact ⟨rfl, btr HA2.out (btr HB.out (btr (bal wb _) HD.out))⟩
  | ok qa =>
    obtain ⟨x, na⟩ := qa
    cases hpb : parse lb with
    | error c =>
      have gc : (c != 0) = true := by simpa using parse_nz hpb
      have HPA := Lib.hid hpa
      have HPB := Lib.hid hpb
      clear hpa hpb
      go_enter Try.func5, Try.ntmps5
      go_wp2_with (first
        | (go_at_call 8; have _t := tkA; refine (prOk la n1 x na HPA.out (by omega) _ _ w HR1.out).mono ?_; clear tkA _t; rintro e wa ⟨k3, r3, sa3, sn3, sc3, nt3, l3, h3, pa3, pn3, pc3, wa2, rfl, hwa2, HA⟩)
        | (go_at_call 8; have _t := tkB; refine (prErr lb n2 c HPB.out (by omega) _ _ _ (HR2.out.below HA.out.2)).mono ?_; clear tkB _t; rintro e wb ⟨rfl, HB⟩)
        | (go_at_call 14; refine (awake_any _).mono ?_; rintro e wd ⟨rfl, hb9⟩; have HD := Lib.hid hb9; clear hb9))
      go_ret
      exact ⟨rfl, btr HA.out.2 (btr HB.out (btr (bal wb _) HD.out))⟩
    | ok qb =>
      obtain ⟨y, nb⟩ := qb
      have HPA := Lib.hid hpa
      have HPB := Lib.hid hpb
      clear hpa hpb
      go_enter Try.func5, Try.ntmps5
      go_upto_region 5 with (first
        | (go_at_call 8; have _t := tkA; refine (prOk la n1 x na HPA.out (by omega) _ _ w HR1.out).mono ?_; clear tkA _t; rintro e wa ⟨k3, r3, sa3, sn3, sc3, nt3, l3, h3, pa3, pn3, pc3, wa2, rfl, hwa2, HA⟩)
        | (go_at_call 8; have _t := tkB; refine (prOk lb n2 y nb HPB.out (by omega) _ _ _ (HR2.out.below HA.out.2)).mono ?_; clear tkB _t; rintro e wb ⟨k4, r4, sa4, sn4, sc4, nt4, l4, h4, pa4, pn4, pc4, wb2, rfl, hwb2, HB⟩))
      (try rw [hwb2])
      obtain ⟨GX, hGX⟩ : ∃ GX, wa.heap.size = GX := ⟨_, rfl⟩
      obtain ⟨GY, hGY⟩ : ∃ GY, wb.heap.size = GY := ⟨_, rfl⟩
      rw [hGX] at HA
      rw [hGY] at HB
      rw [hGX, hGY]
      obtain ⟨FX, hFX⟩ : ∃ FX, New w wa = FX := ⟨_, rfl⟩
      obtain ⟨FY, hFY⟩ : ∃ FY, New wa2 wb = FY := ⟨_, rfl⟩
      rw [hFX] at HA
      rw [hFY] at HB
      have HX : Hid (BxS FX GX x wb2) := HA.out.1.below HB.out.2
      have HY : Hid (BxS FY GY y wb2) := HB.out.1
      have HB2 : Hid (Below w.heap.size w wb2) := btr HA.out.2 HB.out.2
      clear HA HB hwa2 hwb2 hGX hGY hFX hFY
      obtain ⟨kx, rx, sax, snx, scx, ntx, lx, hx, pax, pnx, pcx, hgx, hrex⟩ := HX.out
      obtain ⟨ky, ry, say, sny, scy, nty, ly, hy, pay, pny, pcy, hgy, hrey⟩ := HY.out
      obtain ⟨x0, x1, x2, x3, x4, x5, x6, -⟩ := row7 hgx
      obtain ⟨y0, y1, y2, y3, y4, y5, y6, -⟩ := row7 hgy
      have HSX : Hid (Calls Try.prog 17 #[.agg #[.int .i64 kx, .int .i32 rx, .slice sax snx scx, .bool ntx, .int .i64 lx, .int .i64 hx, .slice pax pnx pcx]] wb2 fun e w' => e = .returned (.bool (decide (x.sz ≤ 100))) ∧ Below wb2.heap.size wb2 w') := short_any x FX _ wb2 (parse_tame HPA.out (by have := HL1.out; omega)) hrex
      have HSY : Hid (∀ W, Below wb2.heap.size wb2 W → Calls Try.prog 17 #[.agg #[.int .i64 ky, .int .i32 ry, .slice say sny scy, .bool nty, .int .i64 ly, .int .i64 hy, .slice pay pny pcy]] W fun e w' => e = .returned (.bool (decide (y.sz ≤ 100))) ∧ Below W.heap.size W w') := fun W hW => short_any y FY _ W (parse_tame HPB.out (by have := HL2.out; omega)) (ReAt.frF (Fr.of_below (fun _ => False) hW) (fun _ _ h => h) _ hrey)
      have HGX := Lib.hid hgx
      have HGY := Lib.hid hgy
      clear hgx hgy hrex hrey
      by_cases hsx : x.sz ≤ 100
      rotate_left
      · rw [decide_eq_false hsx] at HSX
        clear hsx HSY
        go_wp2_with (first
          | (go_at_call 17; refine HSX.out.mono ?_; rintro e wc ⟨rfl, hbc⟩; have HC := Lib.hid hbc; clear hbc)
          | (go_at_call 14; refine (awake_any _).mono ?_; rintro e wd ⟨rfl, hb9⟩; have HD := Lib.hid hb9; clear hb9))
        go_ret
        exact ⟨rfl, btr HB2.out (btr HC.out HD.out)⟩
      have HSZX := Lib.hid hsx
      rw [decide_eq_true hsx] at HSX
      clear hsx
      have HKY : Hid (∀ W, Below wb2.heap.size wb2 W → W.cell? ⟨GY, 0, none⟩ = some (.int .i64 ky) ∧ W.cell? ⟨GY, 0 + 1, none⟩ = some (.int .i32 ry) ∧ W.cell? ⟨GY, 0 + 2, none⟩ = some (.slice say sny scy) ∧ W.cell? ⟨GY, 0 + 3, none⟩ = some (.bool nty) ∧ W.cell? ⟨GY, 0 + 4, none⟩ = some (.int .i64 ly) ∧ W.cell? ⟨GY, 0 + 5, none⟩ = some (.int .i64 hy) ∧ W.cell? ⟨GY, 0 + 6, none⟩ = some (.slice pay pny pcy)) := fun W hW => cells7 hW (heap_lt HGY.out) ⟨y0, y1, y2, y3, y4, y5, y6⟩
      by_cases hsy : y.sz ≤ 100
      rotate_left
      · rw [decide_eq_false hsy] at HSY
        clear hsy
        have tk1 : True := trivial
        have tk2 : True := trivial
        go_wp2_with (first
          | (go_at_call 17; have _t := tk1; refine HSX.out.mono ?_; clear tk1 _t; rintro e wc ⟨rfl, hbc⟩; obtain ⟨q0, q1, q2, q3, q4, q5, q6⟩ := HKY.out wc hbc; have HC := Lib.hid hbc; clear hbc)
          | (go_at_call 17; have _t := tk2; refine (HSY.out _ HC.out).mono ?_; clear tk2 _t; rintro e wc3 ⟨rfl, hbc⟩; have HC3 := Lib.hid hbc; clear hbc)
          | (go_at_call 14; refine (awake_any _).mono ?_; rintro e wd ⟨rfl, hb9⟩; have HD := Lib.hid hb9; clear hb9))
        go_ret
        exact ⟨rfl, btr HB2.out (btr HC.out (btr HC3.out HD.out))⟩
      have HSZY := Lib.hid hsy
      rw [decide_eq_true hsy] at HSY
      clear hsy
      have tk1 : True := trivial
      have tk2 : True := trivial
      go_upto_region 7 with (first
        | (go_at_call 17; have _t := tk1; refine HSX.out.mono ?_; clear tk1 _t; rintro e wc ⟨rfl, hbc⟩; obtain ⟨q0, q1, q2, q3, q4, q5, q6⟩ := HKY.out wc hbc; have HC := Lib.hid hbc; clear hbc)
        | (go_at_call 17; have _t := tk2; refine (HSY.out _ HC.out).mono ?_; clear tk2 _t; rintro e wc3 ⟨rfl, hbc⟩; have HC3 := Lib.hid hbc; clear hbc))
      have HB3 : Hid (Below wb2.heap.size wb2 wc3) := btr HC.out HC3.out
      have HW3 : Hid (Below w.heap.size w wc3) := btr HB2.out HB3.out
      have HX3 : Hid (BxS FX GX x wc3) := HX.out.below HB3.out
      clear q0 q1 q2 q3 q4 q5 q6 y0 y1 y2 y3 y4 y5 y6 x0 x1 x2 x3 x4 x5 x6 HC HC3 HSX HSY HKY HGX HGY HX HY HB2 HB3
      obtain ⟨xs, ys, hxe, hxs, hys, hkd, hpz⟩ := parse_choice HPA.out HPB.out HSZX.out HSZY.out
      have HXE := Lib.hid hxe
      have HXS := Lib.hid hxs
      have HYS := Lib.hid hys
      have HPZ := Lib.hid hpz
      have HNA := Lib.hid (parse_n HPA.out)
      have HNB := Lib.hid (parse_n HPB.out)
      have HKD := Lib.hid hkd
      clear hxe hxs hys hpz hkd
      have hO0 : OwR wc3 wc3.heap.size none 0 0 [] := ⟨rfl, World.ownsRow_nil _ _ _ _, fun x hx => by simp at hx⟩
      obtain ⟨b1, d1, w5, HU5, H5⟩ := hO0.app (Nat.le_refl _) (HR1.out.below HW3.out) (by omega)
      rw [Nat.zero_add] at HU5 H5
      obtain ⟨b2, d2, w6, HU6, H6⟩ := H5.out.1.appL H5.out.2.size #[.int .i32 92, .int .i32 124] [92, 124] 2 rfl rfl (by omega) (by decide) (by omega)
      have H6b : Hid (Below wc3.heap.size wc3 w6) := H5.out.2.trans H6.out.2
      obtain ⟨b3, d3, w7, HU7, H7⟩ := H6.out.1.app H6b.out.size (HR2.out.below (btr HW3.out H6b.out)) (by omega)
      have H7b : Hid (Below wc3.heap.size wc3 w7) := H6b.out.trans H7.out.2
      obtain ⟨m, hm⟩ : ∃ m, n1 + 2 + n2 = m := ⟨_, rfl⟩
      rw [hm] at H7 HU7
      have hmb : m ≤ 602 := by omega
      have HO7 : Hid (Rd .i32 w7 b3 m d3 (la ++ tl lb)) := by
        have := H7.out.1.rd
        rw [List.nil_append, List.append_assoc] at this
        exact this
      have HX7 : Hid (BxS FX GX x w7) := HX3.out.below H7b.out
      have HW7 : Hid (Below w.heap.size w w7) := btr HW3.out H7b.out
      clear hO0 H5 H6 H6b H7 H7b HX3
      go_upto_region 12 with (first
        | (at_builtin; with_reducible refine Lib.wpList_append_run _ rfl (.tmp 49) (.tmp 50) _ _ rfl _ _ rfl rfl _ _ (HU5.out _) ?_)
        | (at_builtin; with_reducible refine Lib.wpList_append_run _ rfl (.tmp 52) (.tmp 53) _ _ rfl _ _ rfl rfl _ _ (HU6.out _) ?_)
        | (at_builtin; with_reducible refine Lib.wpList_append_run _ rfl (.tmp 55) (.tmp 56) _ _ rfl _ _ rfl rfl _ _ (HU7.out _) ?_)
        | (go_at_call 8; refine (prOk (la ++ tl lb) m _ (na + nb) HPZ.out (by omega) _ _ w7 HO7.out).mono ?_; rintro e wz ⟨k5, r5, sa5, sn5, sc5, nt5, l5, h5, pa5, pn5, pc5, w8, rfl, hw8, HZ⟩))
      (try rw [hw8])
      obtain ⟨GZ, hGZ⟩ : ∃ GZ, wz.heap.size = GZ := ⟨_, rfl⟩
      obtain ⟨FZ, hFZ⟩ : ∃ FZ, New w7 wz = FZ := ⟨_, rfl⟩
      rw [hGZ] at HZ
      rw [hGZ]
      rw [hFZ] at HZ
      have hj : joinR 9 (xs ++ ys) = .mk 9 0 [] false 0 0 (xs ++ ys) := by
        have h1 := HXS.out
        have h2 := HYS.out
        match xs, ys, h1, h2 with
        | x :: xs, y :: ys, _, _ =>
          cases xs with
          | nil => rfl
          | cons z xs => rfl
      rw [hj] at HZ
      have HX8 : Hid (BxS FX GX x w8) := HX7.out.below HZ.out.2
      have HW8 : Hid (Below w.heap.size w w8) := btr HW7.out HZ.out.2
      have HZ8 : Hid (BxS FZ GZ (.mk 9 0 [] false 0 0 (xs ++ ys)) w8) := HZ.out.1
      have HO8 : Hid (Rd .i32 w8 b3 m d3 (la ++ tl lb)) := HO7.out.below HZ.out.2
      clear hGZ hFZ hj HZ HX7 HW7 HO7 hw8
      obtain ⟨saz, scz, paz, pcz, hgz, hrez, hgetz⟩ := HZ8.out.part
      obtain ⟨nz, hnz⟩ : ∃ nz, (xs ++ ys).length = nz := ⟨_, rfl⟩
      have hnz2 : 2 ≤ nz := by
        have h1 := List.length_pos_iff.2 HXS.out
        have h2 := List.length_pos_iff.2 HYS.out
        rw [List.length_append] at hnz
        omega
      rw [hnz] at hgz
      obtain ⟨z0, -, -, -, -, -, z6, -⟩ := row7 hgz
      have HGZ := Lib.hid hgz
      have HNZ := Lib.hid hnz
      obtain ⟨ia, hia⟩ : ∃ ia : Int, ((na : Nat) : Int) = ia := ⟨_, rfl⟩
      obtain ⟨ib, hib⟩ : ∃ ib : Int, ((nb : Nat) : Int) = ib := ⟨_, rfl⟩
      have hia0 : 0 ≤ ia := by omega
      have hib0 : 0 ≤ ib := by omega
      have hia1 : ia ≤ 300 := by have := HNA.out; have := HL1.out; omega
      have hib1 : ib ≤ 300 := by have := HNB.out; have := HL2.out; omega
      have HG1 : Hid (Calls Try.prog 11 #[.slice b3 m d3] w8 fun e w' => e = .returned (.int .i64 (ia + ib)) ∧ Below w8.heap.size w8 w') := by
        have h := groups_any b3 m d3 _ w8 HO8.out (by omega)
        rw [HPZ.out] at h
        rw [show ((grpsOf (.ok (joinR 9 (xs ++ ys), na + nb)) : Nat) : Int) = ia + ib by rw [← hia, ← hib]; simp [grpsOf]] at h
        exact h
      have HG2 : Hid (∀ W, Below w8.heap.size w8 W → Calls Try.prog 11 #[.slice a1 n1 c1] W fun e w' => e = .returned (.int .i64 ia) ∧ Below W.heap.size W w') := by
        intro W hW
        have h := groups_any a1 n1 c1 _ W (HR1.out.below (btr HW8.out hW)) (by omega)
        rw [HPA.out] at h
        rw [show ((grpsOf (.ok (x, na)) : Nat) : Int) = ia from hia] at h
        exact h
      have HG3 : Hid (∀ W, Below w8.heap.size w8 W → Calls Try.prog 11 #[.slice a2 n2 c2] W fun e w' => e = .returned (.int .i64 ib) ∧ Below W.heap.size W w') := by
        intro W hW
        have h := groups_any a2 n2 c2 _ W (HR2.out.below (btr HW8.out hW)) (by omega)
        rw [HPB.out] at h
        rw [show ((grpsOf (.ok (y, nb)) : Nat) : Int) = ib from hib] at h
        exact h
      have gz2 : ¬ (nz : Int) < 2 := by omega
      have tg1 : True := trivial
      have tg2 : True := trivial
      have tg3 : True := trivial
      clear hgz hrez hgetz hnz hia hib
      go_upto_region 14 with (first
        | (go_at_call 11; have _t := tg1; refine HG1.out.mono ?_; clear tg1 _t; rintro e v1 ⟨rfl, hb⟩; have HV1 := Lib.hid hb; clear hb)
        | (go_at_call 11; have _t := tg2; refine (HG2.out _ HV1.out).mono ?_; clear tg2 _t; rintro e v2 ⟨rfl, hb⟩; have HV2 := Lib.hid (btr HV1.out hb); clear hb)
        | (go_at_call 11; have _t := tg3; refine (HG3.out _ HV2.out).mono ?_; clear tg3 _t; rintro e v3 ⟨rfl, hb⟩; have HV3 := Lib.hid (btr HV2.out hb); clear hb))
      have HX9 : Hid (BxS FX GX x v3) := HX8.out.below HV3.out
      have HZ9 : Hid (BxS FZ GZ (.mk 9 0 [] false 0 0 (xs ++ ys)) v3) := HZ8.out.below HV3.out
      have HW9 : Hid (Below w.heap.size w v3) := btr HW8.out HV3.out
      clear z0 z6 HGZ HX8 HZ8 HW8 HO8 HG1 HG2 HG3 HV1 HV2 HV3
      obtain ⟨saz, scz, paz, pcz, hgz, hrez, hgetz⟩ := HZ9.out.part
      rw [HNZ.out] at hgz
      by_cases hone : xs.length = 1
      · obtain ⟨x1, rfl⟩ := List.length_eq_one_iff.1 hone
        obtain rfl : x = x1 := HXE.out
        obtain ⟨kx, rx, sax, snx, scx, ntx, lx, hx, pax, pnx, pcx, hgx, hrex⟩ := HX9.out
        have hk9 : (kx == 9) = false := by
          have h := HKD.out x rfl
          obtain ⟨st, ps, rfl, _⟩ := ReAt.full hrex
          simpa [Re.kd] using h
        obtain ⟨x0, x1, x2, x3, x4, x5, x6, -⟩ := row7 hgx
        obtain ⟨z0, z1, z2, z3, z4, z5, z6, -⟩ := row7 hgz
        obtain ⟨b, off, k8, r8, sa8, sn8, sc8, nt8, l8, h8, pa8, pn8, pc8, rfl, hbl, hre8, q0, q1, q2, q3, q4, q5, q6⟩ := hgetz 0 x rfl
        rw [Nat.zero_mul, Nat.add_zero] at q0 q1 q2 q3 q4 q5 q6
        have HSAME : Hid (∀ W, Below v3.heap.size v3 W → Calls Try.prog 10 #[.agg #[.int .i64 k8, .int .i32 r8, .slice sa8 sn8 sc8, .bool nt8, .int .i64 l8, .int .i64 h8, .slice pa8 pn8 pc8], .agg #[.int .i64 kx, .int .i32 rx, .slice sax snx scx, .bool ntx, .int .i64 lx, .int .i64 hx, .slice pax pnx pcx]] W fun e w' => e = .returned (.bool true) ∧ Below W.heap.size W w') := fun W hW => same_self hre8 hrex W hW
        have gn : (0 : Int) < (nz : Int) := by omega
        have gnN : 0 < nz := by omega
        clear hgx hrex hgz hrez hgetz hre8 hbl hone
        go_wp2_with fail
        go_still_tail 5, (by kernel_rfl)
        change wpList _ _ _ _ _ v3.drew
        go_wp2_with (first
          | (go_at_call 10; refine (HSAME.out _ (Below.refl _ _).drew).mono ?_; rintro e w15 ⟨rfl, hb15⟩; have HB15 := Lib.hid ((Below.refl v3.heap.size v3).drew.trans hb15); clear hb15)
          | (go_at_call 14; refine (awake_any _).mono ?_; rintro e w16 ⟨rfl, hb16⟩; have HB16 := Lib.hid hb16; clear hb16))
        go_ret
        exact ⟨rfl, btr HW9.out (btr HB15.out HB16.out)⟩
      have hxj : x = .mk 9 0 [] false 0 0 xs := by
        rw [HXE.out]
        have h1 := HXS.out
        match xs, h1, hone with
        | [z], _, h => exact absurd rfl h
        | z :: z2 :: xs, _, _ => rfl
      have HXP := HX9.out
      rw [hxj] at HXP
      obtain ⟨sax, scx, pax, pcx, hgx, hrex, hgetx⟩ := HXP.part
      obtain ⟨nx, hnx⟩ : ∃ nx, xs.length = nx := ⟨_, rfl⟩
      rw [hnx] at hgx hone
      have hnxz : nx ≤ nz := by have := HNZ.out; rw [List.length_append] at this; omega
      obtain ⟨x0, x1, x2, x3, x4, x5, x6, -⟩ := row7 hgx
      obtain ⟨z0, z1, z2, z3, z4, z5, z6, -⟩ := row7 hgz
      have HGETX := Lib.hid hgetx
      have HGETZ := Lib.hid hgetz
      have HGX := Lib.hid hgx
      have HGZ := Lib.hid hgz
      have HNX := Lib.hid hnx
      have gn1 : ((nx : Int) == 1) = false := by simp; omega
      have hnxs : nx ≤ 9223372036854775807 := ReAt.full hrex |>.choose_spec.choose_spec.2.2.2.2.2.1 |> fun h => by rw [hnx] at h; exact h
      clear hgx hrex hgetx hgz hrez hgetz hnx hxj HXP hone
      go_wp2_with fail
      go_loopw [13] (fun v13 wq => ∃ i : Nat, v13 = .int .i64 (i : Nat) ∧ i ≤ nx ∧ Hid (Below v3.heap.size v3 wq)) (fun v13 _ => nx - (intOf v13).toNat)
      case atStart => exact ⟨0, rfl, by omega, Below.refl _ _⟩
      case round =>
        obtain ⟨i, rfl, hi, HW⟩ := hrel
        have a6 := (HW.out.cell (p := ⟨GX, 6, none⟩) (heap_lt HGX.out)).trans x6
        have e6 := (HW.out.cell (p := ⟨GZ, 6, none⟩) (heap_lt HGZ.out)).trans z6
        by_cases hlt : i < nx
        · obtain ⟨u, hu⟩ : ∃ u, xs[i]? = some u := ⟨_, List.getElem?_eq_getElem (by have := HNX.out; omega)⟩
          have hu2 : (xs ++ ys)[i]? = some u := by rw [List.getElem?_append_left (by have := HNX.out; omega)]; exact hu
          obtain ⟨b, off, k8, r8, sa8, sn8, sc8, nt8, l8, h8, pa8, pn8, pc8, rfl, hbl, hre8, hq⟩ := HGETX.out i u hu
          obtain ⟨b', off', k9, r9, sa9, sn9, sc9, nt9, l9, h9, pa9, pn9, pc9, rfl, hbl', hre9, hq'⟩ := HGETZ.out i u hu2
          obtain ⟨q0, q1, q2, q3, q4, q5, q6⟩ := cells7 HW.out hbl hq
          obtain ⟨t0, t1, t2, t3, t4, t5, t6⟩ := cells7 HW.out hbl' hq'
          have HSAME : Hid (∀ W, Below wr.heap.size wr W → Calls Try.prog 10 #[.agg #[.int .i64 k9, .int .i32 r9, .slice sa9 sn9 sc9, .bool nt9, .int .i64 l9, .int .i64 h9, .slice pa9 pn9 pc9], .agg #[.int .i64 k8, .int .i32 r8, .slice sa8 sn8 sc8, .bool nt8, .int .i64 l8, .int .i64 h8, .slice pa8 pn8 pc8]] W fun e w' => e = .returned (.bool true) ∧ Below W.heap.size W w') := fun W hW => same_self hre9 hre8 W (btr HW.out hW)
          have hg : (i : Int) < (nx : Int) := by omega
          have hg2 : (i : Int) < (nz : Int) := by omega
          clear hbl hbl' hre8 hre9 hq hq' hu hu2
          go_wp2_with fail
          go_still_tail 10, (by kernel_rfl)
          change wpList _ _ _ _ _ wr.drew
          go_wp2_with (go_at_call 10; refine (HSAME.out _ (Below.refl _ _).drew).mono ?_; rintro e w15 ⟨rfl, hb15⟩; have HB15 := Lib.hid ((Below.refl wr.heap.size wr).drew.trans hb15); clear hb15)
          go_roundw
          case rel => exact ⟨i + 1, by go_num, by omega, btr HW.out HB15.out⟩
          case measure => simp [intOf]; omega
        · have hg : ¬ (i : Int) < (nx : Int) := by omega
          go_wp2_with (go_at_call 14; refine (awake_any _).mono ?_; rintro e w16 ⟨rfl, hb16⟩; have HB16 := Lib.hid hb16; clear hb16)
          go_ret
          exact ⟨rfl, btr HW9.out (btr HW.out HB16.out)⟩
end Go.Proofs.Ytkjiobbkbhmijaa.U
