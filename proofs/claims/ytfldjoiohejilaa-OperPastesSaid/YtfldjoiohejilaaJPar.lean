/-
  The document's parted.
-/
import Derived.Test.YtfldjoiohejilaaJFirst
namespace Go.Proofs.Ytfldjoiohejilaa.U
open Go.RowKit
set_option linter.unusedVariables false
set_option linter.unusedSimpArgs false
set_option maxRecDepth 100000

/-- parted, in the middle: both rows -/
structure PaS (wb W : World) (k : Int) (p q : Pl) (i : Nat) (x : List Int) (j n1 n2 : Nat) (r1 : Option Addr) (c1 : Nat) (r2 : Option Addr) (c2 : Nat) : Prop where
  e1 : n1 = (partIn k p q i x j).length
  e2 : n2 = (partOut k p q i x j).length
  o1 : W.ownsRow wb.heap.size 21 1 (.slice r1 n1 c1) n1 (ints (partIn k p q i x j))
  o2 : W.ownsRow wb.heap.size 21 1 (.slice r2 n2 c2) n2 (ints (partOut k p q i x j))
  ap : ∀ g, (Value.slice r1 n1 c1).ownBlock = some g → (Value.slice r2 n2 c2).ownBlock ≠ some g
  hb : Below wb.heap.size wb W
theorem PaS.below {wb W W' : World} {k : Int} {p q : Pl} {i : Nat} {x : List Int} {j n1 n2 : Nat} {r1 : Option Addr} {c1 : Nat} {r2 : Option Addr} {c2 : Nat} (h : PaS wb W k p q i x j n1 n2 r1 c1 r2 c2) (hb : Below W.heap.size W W') : PaS wb W' k p q i x j n1 n2 r1 c1 r2 c2 :=
  ⟨h.e1, h.e2, own_fr h.o1 (Fr.of_below (fun _ => False) hb) (fun _ _ h => h), own_fr h.o2 (Fr.of_below (fun _ => False) hb) (fun _ _ h => h), h.ap, h.hb.trans (hb.mono h.hb.size)⟩
theorem PaS.yes {wb W : World} {k : Int} {p q : Pl} {i : Nat} {x : List Int} {j n1 n2 : Nat} {r1 : Option Addr} {c1 : Nat} {r2 : Option Addr} {c2 : Nat} {z : Int} (h : PaS wb W k p q i x j n1 n2 r1 c1 r2 c2) (hz : x[j]? = some z) (hw : (Lit.int .i32 z).wf = true) (hj : j ≤ 1048576) (hr : regHas k p q (i, j) = true) :
    ∃ a' c' w', (∀ ty, (Builtin.append_ #[35, 35] ty #[.slice r1 n1 c1, .slice (some ⟨W.heap.size, 0, none⟩) 1 1]).run Try.prog (W.alloc (.cells #[.int .i32 z] 21)) = .ok (.slice a' (n1 + 1) c') w') ∧ PaS wb w' k p q i x (j + 1) (n1 + 1) n2 a' c' r2 c2 := by
  obtain ⟨e1, e2, o1, o2, ap, hb⟩ := h
  obtain ⟨a', c', w', hrun, ho, hb2, hoth⟩ := app_oneF W wb.heap.size _ n1 _ z o1 hb.size hw (by have := partIn_len k p q i x j; omega)
  obtain ⟨k1, k2⟩ := hoth _ _ _ o2 (fun g e e' => ap g e' e)
  exact ⟨a', c', w', hrun, by rw [partIn_yes hr hz, List.length_append, ← e1]; rfl, by rw [partOut_no hr]; exact e2, by rw [partIn_yes hr hz]; exact ho, by rw [partOut_no hr]; exact k1, fun g e e' => k2 g e' e, hb.trans hb2⟩
theorem PaS.no {wb W : World} {k : Int} {p q : Pl} {i : Nat} {x : List Int} {j n1 n2 : Nat} {r1 : Option Addr} {c1 : Nat} {r2 : Option Addr} {c2 : Nat} {z : Int} (h : PaS wb W k p q i x j n1 n2 r1 c1 r2 c2) (hz : x[j]? = some z) (hw : (Lit.int .i32 z).wf = true) (hj : j ≤ 1048576) (hr : regHas k p q (i, j) = false) :
    ∃ a' c' w', (∀ ty, (Builtin.append_ #[35, 35] ty #[.slice r2 n2 c2, .slice (some ⟨W.heap.size, 0, none⟩) 1 1]).run Try.prog (W.alloc (.cells #[.int .i32 z] 21)) = .ok (.slice a' (n2 + 1) c') w') ∧ PaS wb w' k p q i x (j + 1) n1 (n2 + 1) r1 c1 a' c' := by
  obtain ⟨e1, e2, o1, o2, ap, hb⟩ := h
  obtain ⟨a', c', w', hrun, ho, hb2, hoth⟩ := app_oneF W wb.heap.size _ n2 _ z o2 hb.size hw (by have := partOut_len k p q i x j; omega)
  obtain ⟨k1, k2⟩ := hoth _ _ _ o1 (fun g e => ap g e)
  exact ⟨a', c', w', hrun, by rw [partIn_no hr]; exact e1, by rw [partOut_yes hr hz, List.length_append, ← e2]; rfl, by rw [partIn_no hr]; exact k1, by rw [partOut_yes hr hz]; exact ho, fun g e e' => k2 g e e', hb.trans hb2⟩
set_option maxHeartbeats 2000000 in
theorem rparted_any (F : Nat → Prop) (a : Option Addr) (n c : Nat) (L : List (List Int)) (i : Nat) (x : List Int) (p q : Pl) (k : Int) (w : World) (h : RdL F w a n c L) (hx : L[i]? = some x) (hxl : x.length ≤ 1048576) :
    Calls Try.prog 44 #[.slice a n c, .int .i64 (i : Nat), rgnV p q k] w fun e w' => ∃ a1 c1 a2 c2, e = .returned (.tuple #[.slice a1 (partIn k p q i x x.length).length c1, .slice a2 (partOut k p q i x x.length).length c2]) ∧
      w'.ownsRow w.heap.size 21 1 (.slice a1 (partIn k p q i x x.length).length c1) (partIn k p q i x x.length).length (ints (partIn k p q i x x.length)) ∧
      w'.ownsRow w.heap.size 21 1 (.slice a2 (partOut k p q i x x.length).length c2) (partOut k p q i x x.length).length (ints (partOut k p q i x x.length)) ∧ Below w.heap.size w w' := by
  unfold rgnV
  have hl := h.len
  have hsm := h.small
  have hin : i < n := by have := (List.getElem?_eq_some_iff.1 hx).1; omega
  obtain ⟨m, hm⟩ : ∃ m, x.length = m := ⟨_, rfl⟩
  have hm1 : m ≤ 1048576 := by omega
  obtain ⟨wb, hwb⟩ : ∃ wb, w.alloc (.cells #[.int .i64 (p.1 : Nat), .int .i64 (p.2 : Nat), .int .i64 (q.1 : Nat), .int .i64 (q.2 : Nat), .int .i64 k] 26) = wb := ⟨_, rfl⟩
  have hsz : wb.heap.size = w.heap.size + 1 := by rw [← hwb]; simp
  have hB : Below w.heap.size w wb := by rw [← hwb]; exact (Below.refl _ _).alloc (Nat.le_refl _) _
  have hnew : wb.heap[w.heap.size]? = some (.cells #[.int .i64 (p.1 : Nat), .int .i64 (p.2 : Nat), .int .i64 (q.1 : Nat), .int .i64 (q.2 : Nat), .int .i64 k] 26 (0, 0)) := by rw [← hwb]; exact heap_alloc_new w _
  have HAS := fun (j : Nat) => rhas_any p q (i, j) k
  obtain ⟨p1, p2⟩ := p
  obtain ⟨q1, q2⟩ := q
  simp only at hwb hnew ⊢
  have H := Lib.hid (And.intro h (And.intro hx (And.intro hm (And.intro hnew (And.intro hB hsz)))))
  have HHAS : Hid (∀ (j : Nat) (W : World), Calls Try.prog 64 #[.agg #[.int .i64 (p1 : Nat), .int .i64 (p2 : Nat), .int .i64 (q1 : Nat), .int .i64 (q2 : Nat), .int .i64 k], .agg #[.int .i64 (i : Nat), .int .i64 (j : Nat)]] W fun e w' => e = .returned (.bool (regHas k (p1, p2) (q1, q2) (i, j))) ∧ Below W.heap.size W w') := HAS
  have HW := Lib.hid hwb
  obtain ⟨b, hbe⟩ : ∃ b, w.heap.size = b := ⟨_, rfl⟩
  have HBE := Lib.hid hbe
  rw [hm]
  rw [hbe]
  clear h hl hx hm hwb hsz hB hnew HAS hbe hxl
  go_enter Try.func44, Try.ntmps44
  go_upto_region 1 with fail
  rw [HBE.out, HW.out]
  go_wp2_with fail
  go_loopw [8, 9, 10] (fun v8 v9 v10 wr => ∃ (j n1 n2 : Nat) (r1 : Option Addr) (c1 : Nat) (r2 : Option Addr) (c2 : Nat), v10 = .int .i64 j ∧ v8 = .slice r1 n1 c1 ∧ v9 = .slice r2 n2 c2 ∧ j ≤ m ∧ Hid (PaS wb wr k (p1, p2) (q1, q2) i x j n1 n2 r1 c1 r2 c2)) (fun _ _ v10 _ => m - (intOf v10).toNat)
  case atStart => exact ⟨0, 0, 0, _, _, _, _, rfl, rfl, rfl, Nat.zero_le _, rfl, rfl, World.ownsRow_nil _ _ _ _, World.ownsRow_nil _ _ _ _, (by intro g e; cases e), Below.refl _ _⟩
  case round =>
    obtain ⟨j, n1, n2, r1, c1, r2, c2, rfl, rfl, rfl, hj, hst⟩ := hrel
    obtain ⟨ha, hx, hm, hnew, hB, hsz⟩ := H.out
    have hb := hst.out.hb
    have hbw : Below w.heap.size w wr := hB.trans (hb.mono (by omega))
    obtain ⟨lb, lo, xa, xc, rfl, hbl, _, hc, hrd, _⟩ := ha.get hbw hx
    rw [hm] at hc hrd
    have hlw : lb < wr.heap.size := by have := hbw.size; omega
    by_cases hlt : j < m
    · obtain ⟨z, hz⟩ : ∃ z, x[j]? = some z := ⟨_, List.getElem?_eq_getElem (by omega)⟩
      have hzw : (Lit.int .i32 z).wf = true := hrd.2.2.2.1 z (List.mem_of_getElem? hz)
      obtain ⟨xb, xo, rfl, hxc⟩ := hrd.2.2.2.2.2 (by omega)
      have hcz := hxc j hlt
      rw [List.getD_eq_getElem?_getD, hz, Option.getD_some] at hcz
      have hxb := block_lt_of_cell hcz
      have hrw : wr.heap[b]? = some (.cells #[.int .i64 (p1 : Nat), .int .i64 (p2 : Nat), .int .i64 (q1 : Nat), .int .i64 (q2 : Nat), .int .i64 k] 26 (0, 0)) := by rw [← HBE.out]; exact (hb.block _ (by omega)).trans hnew
      have f0 := cell_row hrw 0
      have f1 := cell_row hrw 1
      have f2 := cell_row hrw 2
      have f3 := cell_row hrw 3
      have f4 := cell_row hrw 4
      have fl := heap_lt hrw
      obtain ⟨R, hR⟩ : ∃ R, regHas k (p1, p2) (q1, q2) (i, j) = R := ⟨_, rfl⟩
      have hcells : ∀ W, Below wr.heap.size wr W → W.cell? ⟨lb, lo + i, none⟩ = some (.slice (some ⟨xb, xo, none⟩) m xc) ∧ W.cell? ⟨xb, xo + j, none⟩ = some (.int .i32 z) ∧ lb < W.heap.size ∧ xb < W.heap.size := fun W hW => by
        have := hW.size
        exact ⟨(hW.cell (p := ⟨lb, lo + i, none⟩) hlw).trans hc, (hW.cell (p := ⟨xb, xo + j, none⟩) hxb).trans hcz, by omega, by have : xb < wr.heap.size := hxb; omega⟩
      cases R
      · have HC : Hid (∀ W, W = wr → Calls Try.prog 64 #[.agg #[.int .i64 (p1 : Nat), .int .i64 (p2 : Nat), .int .i64 (q1 : Nat), .int .i64 (q2 : Nat), .int .i64 k], .agg #[.int .i64 (i : Nat), .int .i64 (j : Nat)]] W fun e w' => e = .returned (.bool false) ∧ (w'.cell? ⟨lb, lo + i, none⟩ = some (.slice (some ⟨xb, xo, none⟩) m xc) ∧ w'.cell? ⟨xb, xo + j, none⟩ = some (.int .i32 z) ∧ lb < w'.heap.size ∧ xb < w'.heap.size) ∧
            ∃ a' c' w2, Hid (∀ ty, (Builtin.append_ #[35, 35] ty #[.slice r2 n2 c2, .slice (some ⟨w'.heap.size, 0, none⟩) 1 1]).run Try.prog (w'.alloc (.cells #[.int .i32 z] 21)) = .ok (.slice a' (n2 + 1) c') w2) ∧ Hid (PaS wb w2 k (p1, p2) (q1, q2) i x (j + 1) n1 (n2 + 1) r1 c1 a' c')) := by
          rintro W rfl
          refine (HHAS.out j W).mono ?_
          rintro e w' ⟨rfl, hbw'⟩
          rw [hR]
          obtain ⟨a', c', w2, h1, h2⟩ := (hst.out.below hbw').no hz hzw (by omega) hR
          exact ⟨rfl, hcells w' hbw', a', c', w2, h1, h2⟩
        clear hst hz hxc hrd hrw hR ha hx hm hnew hB hsz hbw hcells hb
        go_wp2_with (first
          | (at_builtin; go_must (with_reducible refine Lib.wpList_append_run _ rfl (.tmp 35) (.tmp 43) _ _ rfl _ _ rfl rfl _ _ (HRUN.out _) ?_))
          | (go_at_call 64; (refine (HC.out _ rfl).mono ?_); rintro e w1 ⟨rfl, ⟨u0, u1, u2, u3⟩, a', c', w2, HRUN, HN⟩))
        go_roundw
        case rel => exact ⟨j + 1, n1, n2 + 1, r1, c1, a', c', by go_num, rfl, rfl, by omega, HN⟩
        case measure => simp [intOf]; omega
      · have HC : Hid (∀ W, W = wr → Calls Try.prog 64 #[.agg #[.int .i64 (p1 : Nat), .int .i64 (p2 : Nat), .int .i64 (q1 : Nat), .int .i64 (q2 : Nat), .int .i64 k], .agg #[.int .i64 (i : Nat), .int .i64 (j : Nat)]] W fun e w' => e = .returned (.bool true) ∧ (w'.cell? ⟨lb, lo + i, none⟩ = some (.slice (some ⟨xb, xo, none⟩) m xc) ∧ w'.cell? ⟨xb, xo + j, none⟩ = some (.int .i32 z) ∧ lb < w'.heap.size ∧ xb < w'.heap.size) ∧
            ∃ a' c' w2, Hid (∀ ty, (Builtin.append_ #[35, 35] ty #[.slice r1 n1 c1, .slice (some ⟨w'.heap.size, 0, none⟩) 1 1]).run Try.prog (w'.alloc (.cells #[.int .i32 z] 21)) = .ok (.slice a' (n1 + 1) c') w2) ∧ Hid (PaS wb w2 k (p1, p2) (q1, q2) i x (j + 1) (n1 + 1) n2 a' c' r2 c2)) := by
          rintro W rfl
          refine (HHAS.out j W).mono ?_
          rintro e w' ⟨rfl, hbw'⟩
          rw [hR]
          obtain ⟨a', c', w2, h1, h2⟩ := (hst.out.below hbw').yes hz hzw (by omega) hR
          exact ⟨rfl, hcells w' hbw', a', c', w2, h1, h2⟩
        clear hst hz hxc hrd hrw hR ha hx hm hnew hB hsz hbw hcells hb
        go_wp2_with (first
          | (at_builtin; go_must (with_reducible refine Lib.wpList_append_run _ rfl (.tmp 25) (.tmp 33) _ _ rfl _ _ rfl rfl _ _ (HRUN.out _) ?_))
          | (go_at_call 64; (refine (HC.out _ rfl).mono ?_); rintro e w1 ⟨rfl, ⟨u0, u1, u2, u3⟩, a', c', w2, HRUN, HN⟩))
        go_roundw
        case rel => exact ⟨j + 1, n1 + 1, n2, a', c', r2, c2, by go_num, rfl, rfl, by omega, HN⟩
        case measure => simp [intOf]; omega
    · obtain rfl : j = m := by omega
      have HF := hst
      have hb0 : w.heap.size ≤ wb.heap.size := by omega
      have HB0 := Lib.hid (And.intro hb0 hbw)
      clear hst hrd ha hx hm hnew hB hsz hbw hb hb0
      go_wp2_with fail
      refine bodyPost_ret (v := .tuple #[.slice r1 n1 c1, .slice r2 n2 c2]) (by rw [results_tmp2 rfl]; rfl) rfl ?_
      obtain ⟨e1, e2, o1, o2, ap, hb⟩ := HF.out
      rw [← e1, ← e2]
      exact ⟨r1, c1, r2, c2, rfl, by rw [← HBE.out]; exact own_mono o1 HB0.out.1, by rw [← HBE.out]; exact own_mono o2 HB0.out.1, by rw [← HBE.out]; exact HB0.out.2⟩
end Go.Proofs.Ytfldjoiohejilaa.U
