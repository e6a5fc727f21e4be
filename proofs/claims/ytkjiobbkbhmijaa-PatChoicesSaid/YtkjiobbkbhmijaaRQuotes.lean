/-
  The walk of PatQuotes.
-/
import Derived.Test.YtkjiobbkbhmijaaRGroups
namespace Go.Proofs.Ytkjiobbkbhmijaa.U
open Go.RowKit
set_option linter.unusedVariables false
set_option linter.unusedSimpArgs false
set_option maxRecDepth 100000

theorem BxS.below {F : Nat → Prop} {g : Nat} {y : Re} {w w' : World} (h : BxS F g y w) (hb : Below w.heap.size w w') : BxS F g y w' := by
  obtain ⟨k4, r4, sa4, sn4, sc4, nt4, l4, h4, pa4, pn4, pc4, h1, h2⟩ := h
  exact ⟨k4, r4, sa4, sn4, sc4, nt4, l4, h4, pa4, pn4, pc4, (hb.block _ (heap_lt h1)).trans h1, ReAt.frF (Fr.of_below (fun _ => False) hb) (fun _ _ h => h) _ h2⟩
/-- a part beside one that is written out -/
theorem same_lit (k r : Int) {F : Nat → Prop} {w : World} {x : Re} {k4 r4 : Int} {sa4 : Option Addr} {sn4 sc4 : Nat} {nt4 : Bool} {l4 h4 : Int} {pa4 : Option Addr} {pn4 pc4 : Nat} (hx : ReAt F w [.int .i64 k4, .int .i32 r4, .slice sa4 sn4 sc4, .bool nt4, .int .i64 l4, .int .i64 h4, .slice pa4 pn4 pc4] x) (he : x = .mk k r [] false 0 0 []) (W : World) (hW : Below w.heap.size w W) :
    Calls Try.prog 10 #[.agg #[.int .i64 k4, .int .i32 r4, .slice sa4 sn4 sc4, .bool nt4, .int .i64 l4, .int .i64 h4, .slice pa4 pn4 pc4], .agg #[.int .i64 k, .int .i32 r, .slice none 0 0, .bool false, .int .i64 0, .int .i64 0, .slice none 0 0]] W fun e w' => e = .returned (.bool true) ∧ Below W.heap.size W w' := by
  subst he
  have h := same_any (.mk k r [] false 0 0 []) (.mk k r [] false 0 0 []) F (fun _ => False) _ _ W (ReAt.frF (Fr.of_below (fun _ => False) hW) (fun _ _ h => h) _ hx) (ReAt.simple _ W k r false)
  rw [(Re.same_iff _ _).2 rfl] at h
  exact h
set_option maxHeartbeats 4000000 in
theorem patQuotes_walk (a : Option Addr) (len cap : Nat) (l : List Int) (w : World) (hr : Rd .i32 w a len cap l) (hu : len ≤ 1048576) :
    Calls Try.prog 4 #[.slice a len cap] w fun e w' => e = .returned (.bool true) ∧ Below w.heap.size w w' := by
  have hsm := hr.small
  have hlen := hr.1
  have HR := Lib.hid hr
  have HL := Lib.hid hlen
  clear hr hlen
  go_enter Try.func4, Try.ntmps4
  go_upto_region 2 with (go_at_call 15; refine (quote_any _ _ _ l w HR.out hu).mono ?_; rintro e w7 ⟨a7, n7, c7, rfl, H7⟩)
  by_cases h300 : 300 < len
  · have g1 : (300 : Int) < (len : Int) := by omega
    go_wp2_with fail
    go_ret
    exact ⟨rfl, H7.out.2⟩
  have g1 : ¬ (300 : Int) < (len : Int) := by omega
  have hn7 : n7 ≤ 1000 := by
    have h1 := H7.out.1.1
    have h2 := (quote_len l).2
    have h3 := HL.out
    omega
  have HPK := Lib.hid (parse_quote l (by have := HL.out; omega))
  go_upto_region 5 with (go_at_call 8; refine (parse_any _ _ _ (quote l) w7 H7.out.1.rd (by omega)).mono ?_; rw [HPK.out]; intro e w8 hh; obtain ⟨k4, r4, sa4, sn4, sc4, nt4, l4, h4, pa4, pn4, pc4, he, hre, hb8⟩ := hh; subst he; have HB8 := Lib.hid hb8; have HRE := Lib.hid hre; clear hre hb8)
  obtain ⟨w9, hw9⟩ : ∃ w9, w8.alloc (.cells #[.int .i64 k4, .int .i32 r4, .slice sa4 sn4 sc4, .bool nt4, .int .i64 l4, .int .i64 h4, .slice pa4 pn4 pc4] 26) = w9 := ⟨_, rfl⟩
  have hb9 : Below w8.heap.size w8 w9 := by rw [← hw9]; exact bal _ _
  have hg9 : w9.heap[w8.heap.size]? = some (.cells #[.int .i64 k4, .int .i32 r4, .slice sa4 sn4 sc4, .bool nt4, .int .i64 l4, .int .i64 h4, .slice pa4 pn4 pc4] 26 (0, 0)) := by rw [← hw9]; exact heap_alloc_new w8 _
  rw [hw9]
  have HX9 : Hid (BxS (New w7 w8) w8.heap.size (joinR 8 (l.map Re.rune)) w9) := ⟨k4, r4, sa4, sn4, sc4, nt4, l4, h4, pa4, pn4, pc4, hg9, ReAt.frF (Fr.of_below (fun _ => False) hb9) (fun _ _ h => h) _ HRE.out⟩
  have HB9 : Hid (Below w.heap.size w w9 ∧ OwR w9 w.heap.size a7 n7 c7 (quote l)) := ⟨(H7.out.2.trans (HB8.out.mono H7.out.2.size)).trans (hb9.mono (by have := H7.out.2.size; have := HB8.out.size; omega)), (H7.out.1.below HB8.out).below hb9⟩
  clear hw9 hb9 hg9 HRE HPK
  obtain ⟨G, hG⟩ : ∃ G, w8.heap.size = G := ⟨_, rfl⟩
  rw [hG] at HX9
  rw [hG]
  clear hG
  go_upto_region 7 with (first
    | (go_at_call 16; refine (rquote_any _ _ _ l w9 (HR.out.below HB9.out.1) hu).mono ?_; rintro e w10 ⟨a10, n10, c10, rfl, H10⟩; obtain rfl : n7 = n10 := HB9.out.2.1.symm.trans H10.out.1.1)
    | (go_at_call 13; refine (runes_same _ _ _ _ _ (quote l) w10 (HB9.out.2.below H10.out.2).rd H10.out.1.rd).mono ?_; rintro e w11 ⟨rfl, hb11⟩; have HB11 := Lib.hid hb11; clear hb11))
  have HB12 : Hid (Below w.heap.size w w11) := HB9.out.1.trans ((btr H10.out.2 HB11.out).mono HB9.out.1.size)
  have HX12 : Hid (BxS (New w7 w8) G (joinR 8 (l.map Re.rune)) w11) := HX9.out.below (btr H10.out.2 HB11.out)
  have HR12 : Hid (Rd .i32 w11 a len cap l) := HR.out.below HB12.out
  clear HX9 HB9 H10 HB11 HR
  obtain ⟨K, r, sa, sn, sc, nt, lo, hh, pa, pn, pc, hgx, hre⟩ := HX12.out
  obtain ⟨p0, p1, p2, p3, p4, p5, p6, -⟩ := row7 hgx
  by_cases h0 : len = 0
  · subst h0
    have hl0 : l = [] := List.eq_nil_of_length_eq_zero HL.out
    subst hl0
    have HSAME := Lib.hid (same_lit 0 0 hre rfl)
    clear hgx hre
    go_wp2_with (first
      | (go_at_call 10; refine (HSAME.out _ (by first | exact Below.refl _ _ | exact (Below.refl _ _).drew)).mono ?_; rintro e w15 ⟨rfl, hb15⟩; have HB15 := Lib.hid hb15; clear hb15)
      | (go_at_call 14; refine (awake_any _).mono ?_; rintro e w16 ⟨rfl, hb16⟩; have HB16 := Lib.hid hb16; clear hb16))
    go_ret
    exact ⟨rfl, HB12.out.trans ((btr HB15.out HB16.out).mono HB12.out.size)⟩
  by_cases h1 : len = 1
  · subst h1
    obtain ⟨c, rfl⟩ : ∃ c, l = [c] := List.length_eq_one_iff.1 HL.out
    have HSAME := Lib.hid (same_lit 1 c hre rfl)
    obtain ⟨b, off, rfl, hbl, hcell⟩ := HR12.out.at_ (i := 0) (by omega)
    have e1 : w11.cell? ⟨b, off, none⟩ = some (.int .i32 c) := hcell
    clear hgx hre hcell
    go_wp2_with fail
    go_still_tail 5, (by kernel_rfl)
    change wpList _ _ _ _ _ w11.drew
    go_wp2_with (first
      | (go_at_call 10; refine (HSAME.out _ (by first | exact Below.refl _ _ | exact (Below.refl _ _).drew)).mono ?_; rintro e w15 ⟨rfl, hb15⟩; have HB15 := Lib.hid ((Below.refl w11.heap.size w11).drew.trans hb15); clear hb15)
      | (go_at_call 14; refine (awake_any _).mono ?_; rintro e w16 ⟨rfl, hb16⟩; have HB16 := Lib.hid hb16; clear hb16))
    go_ret
    exact ⟨rfl, HB12.out.trans ((btr HB15.out HB16.out).mono HB12.out.size)⟩
  have hj : joinR 8 (l.map Re.rune) = .mk 8 0 [] false 0 0 (l.map Re.rune) := by
    have := HL.out
    match l, this with
    | [], h => simp at h; omega
    | [x], h => simp at h; omega
    | x :: y :: xs, h => rfl
  rw [hj] at hre
  obtain ⟨rfl, rfl, rfl, rfl, rfl, rfl, hpn, hget⟩ := hre.parts
  rw [List.length_map, HL.out] at hpn
  subst hpn
  have HGET := Lib.hid hget
  have HGX := Lib.hid hgx
  have heq : ((pn : Int) != (pn : Int)) = false := by simp
  have g2 : ((pn : Int) == 0) = false := by simp; omega
  have g3 : ((pn : Int) == 1) = false := by simp; omega
  clear hget hgx hre hj HX12
  go_wp2_with fail
  go_loopw [6] (fun v6 wq => ∃ i : Nat, v6 = .int .i64 (i : Nat) ∧ i ≤ pn ∧ Hid (Below w11.heap.size w11 wq)) (fun v6 _ => pn - (intOf v6).toNat)
  case atStart => exact ⟨0, rfl, by omega, Below.refl _ _⟩
  case round =>
    obtain ⟨i, rfl, hi, HW⟩ := hrel
    have a6 := (HW.out.cell (p := ⟨G, 6, none⟩) (heap_lt HGX.out)).trans p6
    by_cases hlt : i < pn
    · obtain ⟨c, hc⟩ : ∃ c, l[i]? = some c := ⟨_, List.getElem?_eq_getElem (by have := HL.out; omega)⟩
      obtain ⟨b, off, rfl, v, hv, hcv⟩ := HGET.out i (Re.rune c) (by rw [List.getElem?_map, hc]; rfl)
      obtain ⟨b2, off2, rfl, hbl2, hcell⟩ := HR12.out.at_ hlt
      obtain ⟨k8, r8, sa8, sn8, sc8, nt8, l8, h8, pa8, pn8, pc8, rfl⟩ := hv.rev7
      rw [List.getD_eq_getElem?_getD, hc, Option.getD_some] at hcell
      have e1 := (HW.out.cell (p := ⟨b2, off2 + i, none⟩) hbl2).trans hcell
      have hbl := block_lt_of_cell (hcv 0 _ rfl)
      have c0 := (HW.out.cell (p := ⟨b, off + i * 7, none⟩) hbl).trans (hcv 0 _ rfl)
      have c1 := (HW.out.cell (p := ⟨b, off + i * 7 + 1, none⟩) hbl).trans (hcv 1 _ rfl)
      have c2 := (HW.out.cell (p := ⟨b, off + i * 7 + 2, none⟩) hbl).trans (hcv 2 _ rfl)
      have c3 := (HW.out.cell (p := ⟨b, off + i * 7 + 3, none⟩) hbl).trans (hcv 3 _ rfl)
      have c4 := (HW.out.cell (p := ⟨b, off + i * 7 + 4, none⟩) hbl).trans (hcv 4 _ rfl)
      have c5 := (HW.out.cell (p := ⟨b, off + i * 7 + 5, none⟩) hbl).trans (hcv 5 _ rfl)
      have c6 := (HW.out.cell (p := ⟨b, off + i * 7 + 6, none⟩) hbl).trans (hcv 6 _ rfl)
      have HSAME := Lib.hid (same_lit 1 c (ReAt.frF (Fr.of_below (fun _ => False) HW.out) (fun _ _ h => h) _ hv) rfl)
      have hg : (i : Int) < (pn : Int) := by omega
      clear hv hcv hcell hc hbl hbl2
      go_wp2_with fail
      go_still_tail 10, (by kernel_rfl)
      change wpList _ _ _ _ _ wr.drew
      go_wp2_with (go_at_call 10; refine (HSAME.out _ (Below.refl _ _).drew).mono ?_; rintro e w15 ⟨rfl, hb15⟩; have HB15 := Lib.hid ((Below.refl wr.heap.size wr).drew.trans hb15); clear hb15)
      go_roundw
      case rel => exact ⟨i + 1, by go_num, by omega, HW.out.trans (HB15.out.mono HW.out.size)⟩
      case measure => simp [intOf]; omega
    · have hg : ¬ (i : Int) < (pn : Int) := by omega
      go_wp2_with (go_at_call 14; refine (awake_any _).mono ?_; rintro e w16 ⟨rfl, hb16⟩; have HB16 := Lib.hid hb16; clear hb16)
      go_ret
      exact ⟨rfl, HB12.out.trans ((btr HW.out HB16.out).mono HB12.out.size)⟩
end Go.Proofs.Ytkjiobbkbhmijaa.U
