/-
  The document's Take.
-/
import Derived.Test.YtfldjoiohejilaaJPart
import Derived.Test.YtfldjoiohejilaaJPar
namespace Go.Proofs.Ytfldjoiohejilaa.U
open Go.RowKit
set_option linter.unusedVariables false
set_option linter.unusedSimpArgs false
set_option maxRecDepth 100000

theorem there_ok {L : List (List Int)} {r : Rgn} (h : thereR L r = 0) : L ≠ [] ∧ ∃ p q, r = ⟨upP p, upP q, r.k⟩ ∧ clipZ L r.f = p ∧ clipZ L r.t = q ∧ okP L p ∧ okP L q ∧ 0 ≤ r.k ∧ r.k ≤ 2 := by
  unfold thereR at h
  split at h
  · cases h
  · rename_i h1
    split at h
    · cases h
    · rename_i h2
      simp only [not_or, Classical.not_not, ne_eq] at h2
      obtain ⟨hL, e1, e2⟩ := h2
      refine ⟨hL, clipZ L r.f, clipZ L r.t, ?_, rfl, rfl, clipP_ok hL _ _, clipP_ok hL _ _, by omega, by omega⟩
      obtain ⟨f, t, k⟩ := r
      simp only at e1 e2 ⊢
      rw [e1, e2]
theorem rg_val (r : Rgn) : r.v = .agg #[.int .i64 r.f.l, .int .i64 r.f.c, .int .i64 r.t.l, .int .i64 r.t.c, .int .i64 r.k] := rfl
set_option maxHeartbeats 1000000 in
/-- Take of a region that is not there -/
theorem rtake_no (F : Nat → Prop) (a : Option Addr) (n c : Nat) (L : List (List Int)) (r : Rgn) (w : World) (h : RdL F w a n c L) (hr : i64r r) (hR : thereR L r ≠ 0) :
    Calls Try.prog 14 #[.slice a n c, r.v] w fun e w' => e = .returned (.tuple #[rgV 0 none 0 0, .int .i64 (thereR L r)]) ∧ Below w.heap.size w w' := by
  obtain ⟨⟨f1, f2⟩, ⟨t1, t2⟩, k⟩ := r
  show Calls Try.prog 14 #[.slice a n c, .agg #[.int .i64 f1, .int .i64 f2, .int .i64 t1, .int .i64 t2, .int .i64 k]] w _
  obtain ⟨wb, hwb⟩ : ∃ wb, (w.alloc (.cells #[.int .i64 f1, .int .i64 f2, .int .i64 t1, .int .i64 t2, .int .i64 k] 26)).alloc (.cells #[.int .i64 0, .slice none 0 0] 30) = wb := ⟨_, rfl⟩
  have hnew := two_new w #[.int .i64 f1, .int .i64 f2, .int .i64 t1, .int .i64 t2, .int .i64 k] #[.int .i64 0, .slice none 0 0] 26 30
  rw [hwb] at hnew
  have hsz : wb.heap.size = w.heap.size + 2 := by rw [← hwb]; simp
  have hB : Below w.heap.size w wb := by rw [← hwb]; exact ((Below.refl _ _).alloc (Nat.le_refl _) _).alloc (by simp) _
  rw [← hsz] at hnew
  obtain ⟨E, hE⟩ : ∃ E, thereR L ⟨⟨f1, f2⟩, ⟨t1, t2⟩, k⟩ = E := ⟨_, rfl⟩
  have HC : Hid (∀ W, W = wb → Calls Try.prog 42 #[.slice a n c, .agg #[.int .i64 f1, .int .i64 f2, .int .i64 t1, .int .i64 t2, .int .i64 k]] W fun e w' => e = .returned (.int .i64 E) ∧ (w'.cell? ⟨w.heap.size + 1, 0, none⟩ = some (.int .i64 0) ∧ w'.cell? ⟨w.heap.size + 1, 1, none⟩ = some (.slice none 0 0) ∧ w'.frozen? ⟨w.heap.size + 1, 0, none⟩ = false ∧ w'.frozen? ⟨w.heap.size + 1, 1, none⟩ = false ∧ w.heap.size + 1 < w'.heap.size) ∧ Hid (Below w.heap.size w w')) := by
    rintro W rfl
    refine (rthereR_any F a n c L ⟨⟨f1, f2⟩, ⟨t1, t2⟩, k⟩ E W (h.below hB) hr hE).mono ?_
    rintro e w' ⟨rfl, hb⟩
    obtain ⟨g1, g2⟩ := hnew w' hb
    exact ⟨rfl, ⟨cell_row g2 0, cell_row g2 1, frozen_row g2 0, frozen_row g2 1, heap_lt g2⟩, hB.trans (hb.mono (by omega))⟩
  obtain ⟨g1, g2⟩ := hnew wb (Below.refl _ _)
  have f0' := cell_row g1 0
  have f1' := cell_row g1 1
  have f2' := cell_row g1 2
  have f3' := cell_row g1 3
  have f4' := cell_row g1 4
  have fl := heap_lt g1
  rw [hE] at hR ⊢
  have hE0 : (E != 0) = true := by simpa using hR
  have HW := Lib.hid hwb
  obtain ⟨b, hbe⟩ : ∃ b, w.heap.size = b := ⟨_, rfl⟩
  have HBE := Lib.hid hbe
  rw [hbe] at HC f0' f1' f2' f3' f4' fl
  rw [hbe]
  clear hwb hnew hsz hB h g1 g2 hE hbe hr
  go_enter Try.func14, Try.ntmps14
  go_upto_region 1 with fail
  rw [HBE.out, HW.out]
  go_wp2_with (go_at_call 42; (refine (HC.out _ rfl).mono ?_); rintro e w1 ⟨rfl, ⟨u0, u1, u2, u3, u4⟩, HB1⟩)
  refine bodyPost_ret (v := .tuple #[rgV 0 none 0 0, .int .i64 E]) ?_ rfl ⟨rfl, ?_⟩
  · rw [results_ct rfl]
    go_simp
    first | rfl | done
  · (repeat' (first | exact HB1.out | omega | refine setCell_below ?_ _ _ _ ?_))
/-- Take, in the middle of its loop -/
structure TkS (w : World) (b d : Nat) (L : List (List Int)) (p q : Pl) (k : Int) (j : Nat) (ra : Option Addr) (rc : Nat) (W : World) : Prop where
  rg : W.heap[b]? = some (.cells #[.int .i64 (p.1 : Nat), .int .i64 (p.2 : Nat), .int .i64 (q.1 : Nat), .int .i64 (q.2 : Nat), .int .i64 k] 26 (0, 0))
  z : W.heap[b + 1]? = some (.cells #[.int .i64 0, .slice none 0 0] 30 (0, 0))
  e : W.heap[d + 1]? = some (.cells #[.int .i64 ((endsR p q).2.1 : Nat), .int .i64 ((endsR p q).2.2 : Nat)] 24 (0, 0))
  g : W.heap[d + 2]? = some (.cells #[.int .i64 k, .slice ra j rc] 30 (0, 0))
  fr : FreshL (d + 3) W ra j rc (insL L k p q (endsR p q).1.1 j)
  hb : Below b w W
  l : d + 3 ≤ W.heap.size
  bd : b + 1 < d
theorem TkS.below {w : World} {b d : Nat} {L : List (List Int)} {p q : Pl} {k : Int} {j : Nat} {ra : Option Addr} {rc : Nat} {W W' : World} (h : TkS w b d L p q k j ra rc W) (hw : w.heap.size = b) (hb : Below W.heap.size W W') : TkS w b d L p q k j ra rc W' := by
  have := h.l
  have := h.bd
  have := hb.size
  exact ⟨(hb.block _ (by omega)).trans h.rg, (hb.block _ (by omega)).trans h.z, (hb.block _ (by omega)).trans h.e, (hb.block _ (by omega)).trans h.g, h.fr.below hb, h.hb.trans (hb.mono (by omega)), by omega, h.bd⟩
/-- one line more -/
theorem TkS.step {w : World} {b d : Nat} {L : List (List Int)} {p q : Pl} {k : Int} {j : Nat} {ra : Option Addr} {rc : Nat} {W w5 : World} (h : TkS w b d L p q k j ra rc W) (hw : w.heap.size = b) (hb : Below W.heap.size W w5) {a1 : Option Addr} {m1 c1 : Nat} {x : List Int} (hx : x = inL L k p q ((endsR p q).1.1 + j)) (hm : x.length = m1) (ho : w5.ownsRow W.heap.size 21 1 (.slice a1 m1 c1) m1 (ints x)) (hj : j ≤ 1048576) :
    ∃ a3 c3 w3, (∀ ty, (Builtin.append_ #[22, 22] ty #[.slice ra j rc, .slice (some ⟨w5.heap.size, 0, none⟩) 1 1]).run Try.prog (w5.alloc (.cells #[.slice a1 m1 c1] 35)) = .ok (.slice a3 (j + 1) c3) w3) ∧
      w3.heap[d + 2]? = some (.cells #[.int .i64 k, .slice ra j rc] 30 (0, 0)) ∧ TkS w b d L p q k (j + 1) a3 c3 (w3.setCell ⟨d + 2, 1, none⟩ (.slice a3 (j + 1) c3)) := by
  obtain ⟨a3, c3, w3, hrun, hf, hb3⟩ := fresh_snoc W w5 (d + 3) ra j rc _ h.fr hb h.l a1 m1 c1 x hm ho (by omega)
  have hl := h.l
  have hbd := h.bd
  have hs3 := hb3.size
  have g3 := (hb3.block (d + 2) (by omega)).trans h.g
  have hfr : Fr (fun k => k = d + 2) w3 (w3.setCell ⟨d + 2, 1, none⟩ (.slice a3 (j + 1) c3)) := (Fr.refl (fun k => k = d + 2) w3).setCell ⟨d + 2, 1, none⟩ _ (fun _ => rfl)
  refine ⟨a3, c3, w3, hrun, g3, ?_, ?_, ?_, ?_, ?_, ?_, ?_, hbd⟩
  · exact (Below.heap_setCell _ _ _ _ (by show ¬ _ = _; simp; omega)).trans ((hb3.block b (by omega)).trans h.rg)
  · exact (Below.heap_setCell _ _ _ _ (by show ¬ _ = _; simp; omega)).trans ((hb3.block (b + 1) (by omega)).trans h.z)
  · exact (Below.heap_setCell _ _ _ _ (by show ¬ _ = _; simp)).trans ((hb3.block (d + 1) (by omega)).trans h.e)
  · exact heap_set g3 1 _
  · rw [insL_succ, ← hx]
    exact hf.fr hfr (fun k hk e => by omega)
  · exact setCell_below (h.hb.trans (hb3.mono (by omega))) _ _ _ (by omega)
  · simpa using (by omega : d + 3 ≤ w3.heap.size)
theorem there_up {L : List (List Int)} {p q : Pl} {k : Int} (hp : okP L p) (hq : okP L q) (h1 : 0 ≤ k) (h2 : k ≤ 2) : thereR L ⟨upP p, upP q, k⟩ = 0 ∧ clipZ L (upP p) = p ∧ clipZ L (upP q) = q := by
  have e1 : clipZ L (upP p) = p := clipP_id hp
  have e2 : clipZ L (upP q) = q := clipP_id hq
  refine ⟨?_, e1, e2⟩
  have hL : L ≠ [] := by rintro rfl; exact absurd hp.1 (by simp)
  unfold thereR
  rw [if_neg (by simp only; omega), if_neg]
  simp only [e1, e2]
  simp [hL]
theorem i64_okP {F : Nat → Prop} {w : World} {a : Option Addr} {n c : Nat} {L : List (List Int)} {p : Pl} (h : RdL F w a n c L) (hs : sizeN (lens L) ≤ 1048576) (hp : okP L p) : p.1 ≤ 1048576 ∧ p.2 ≤ 1048576 := by
  obtain ⟨h1, h2⟩ := hp
  have hc := size_count L
  have hx : L[p.1]? = some (lnL L p.1) := by unfold lnL; rw [List.getD_eq_getElem?_getD, List.getElem?_eq_getElem h1]; rfl
  have hm : (lnL L p.1).length ∈ lens L := List.mem_map.2 ⟨_, List.mem_of_getElem? hx, rfl⟩
  have := sizeN_mem hm
  exact ⟨by omega, by omega⟩
set_option maxHeartbeats 4000000 in
/-- Take of a region that is there -/
theorem rtake_ok (F : Nat → Prop) (a : Option Addr) (n c : Nat) (L : List (List Int)) (p q : Pl) (k : Int) (w : World) (h : RdL F w a n c L) (hs : sizeN (lens L) ≤ 1048576) (hp : okP L p) (hq : okP L q) (h1 : 0 ≤ k) (h2 : k ≤ 2) :
    Calls Try.prog 14 #[.slice a n c, rgnV p q k] w fun e w' => ∃ ra rc, e = .returned (.tuple #[rgV k ra (overN p q) rc, .int .i64 0]) ∧ FreshL w.heap.size w' ra (overN p q) rc (takeL L p q k) ∧ Below w.heap.size w w' := by
  have hth := there_up (k := k) hp hq h1 h2
  have hpi := i64_okP h hs hp
  have hqi := i64_okP h hs hq
  obtain ⟨hoA, hoB⟩ := endsR_ok hp hq
  have hle := endsR_le p q
  have hl := h.len
  have hsm := h.small
  have hend := rends_any p q k
  have hpart := fun (i : Nat) (x : List Int) (W : World) (hR : RdL F W a n c L) (hx : L[i]? = some x) (hl : x.length ≤ 1048576) => rparted_any F a n c L i x p q k W hR hx hl
  have hBi := i64_okP h hs hoB
  obtain ⟨A1, hA1⟩ : ∃ A1, (endsR p q).1.1 = A1 := ⟨_, rfl⟩
  obtain ⟨B1, hB1⟩ : ∃ B1, (endsR p q).2.1 = B1 := ⟨_, rfl⟩
  obtain ⟨B2, hB2⟩ : ∃ B2, (endsR p q).2.2 = B2 := ⟨_, rfl⟩
  obtain ⟨A2, hA2⟩ : ∃ A2, (endsR p q).1.2 = A2 := ⟨_, rfl⟩
  have hov : overN p q = B1 + 1 - A1 := by unfold overN; rw [hA1, hB1]
  have htk : takeL L p q k = insL L k p q A1 (B1 + 1 - A1) := by unfold takeL; rw [hov, hA1]
  rw [hA1, hB1] at hle
  rw [hB1] at hBi
  have hAn : A1 < n := by have := hoA.1; rw [hA1] at this; omega
  have hBn : B1 < n := by have := hoB.1; rw [hB1] at this; omega
  have hendE : endsR p q = ((A1, A2), (B1, B2)) := by rw [← hA1, ← hA2, ← hB1, ← hB2]
  rw [hendE] at hend
  rw [hov, htk]
  unfold rgnV
  obtain ⟨wb, hwb⟩ : ∃ wb, (w.alloc (.cells #[.int .i64 (p.1 : Nat), .int .i64 (p.2 : Nat), .int .i64 (q.1 : Nat), .int .i64 (q.2 : Nat), .int .i64 k] 26)).alloc (.cells #[.int .i64 0, .slice none 0 0] 30) = wb := ⟨_, rfl⟩
  have hnew := two_new w #[.int .i64 (p.1 : Nat), .int .i64 (p.2 : Nat), .int .i64 (q.1 : Nat), .int .i64 (q.2 : Nat), .int .i64 k] #[.int .i64 0, .slice none 0 0] 26 30
  rw [hwb] at hnew
  have hsz : wb.heap.size = w.heap.size + 2 := by rw [← hwb]; simp
  have hB : Below w.heap.size w wb := by rw [← hwb]; exact ((Below.refl _ _).alloc (Nat.le_refl _) _).alloc (by simp) _
  rw [← hsz] at hnew
  obtain ⟨b, hbe⟩ : ∃ b, w.heap.size = b := ⟨_, rfl⟩
  have HC : Hid (∀ W, W = wb → Calls Try.prog 42 #[.slice a n c, .agg #[.int .i64 (p.1 : Nat), .int .i64 (p.2 : Nat), .int .i64 (q.1 : Nat), .int .i64 (q.2 : Nat), .int .i64 k]] W fun e w' => e = .returned (.int .i64 0) ∧ RgB b ⟨upP p, upP q, k⟩ w' ∧ Hid (Below wb.heap.size wb w')) := by
    rintro W rfl
    refine (rthereR_any F a n c L ⟨upP p, upP q, k⟩ 0 W (h.below hB) ⟨⟨⟨by show _ ≤ (p.1 : Int); omega, by show (p.1 : Int) ≤ _; omega⟩, ⟨by show _ ≤ (p.2 : Int); omega, by show (p.2 : Int) ≤ _; omega⟩⟩, ⟨⟨by show _ ≤ (q.1 : Int); omega, by show (q.1 : Int) ≤ _; omega⟩, ⟨by show _ ≤ (q.2 : Int); omega, by show (q.2 : Int) ≤ _; omega⟩⟩, ⟨by show _ ≤ k; omega, by show k ≤ _; omega⟩⟩ hth.1).mono ?_
    rintro e w' ⟨rfl, hb⟩
    obtain ⟨g1, g2⟩ := hnew w' hb
    rw [hbe] at g1
    exact ⟨rfl, RgB.of g1, hb⟩
  have HE : Hid (∀ W, Hid (Below wb.heap.size wb W) → Calls Try.prog 43 #[.agg #[.int .i64 (p.1 : Nat), .int .i64 (p.2 : Nat), .int .i64 (q.1 : Nat), .int .i64 (q.2 : Nat), .int .i64 k]] W fun e w' => e = .returned (.tuple #[.agg #[.int .i64 (A1 : Nat), .int .i64 (A2 : Nat)], .agg #[.int .i64 (B1 : Nat), .int .i64 (B2 : Nat)]]) ∧ w'.cell? ⟨b, 4, none⟩ = some (.int .i64 k) ∧ b < w'.heap.size ∧
      Hid (TkS w b w'.heap.size L p q k 0 none 0 (((w'.alloc (.cells #[.int .i64 (A1 : Nat), .int .i64 (A2 : Nat)] 24)).alloc (.cells #[.int .i64 (B1 : Nat), .int .i64 (B2 : Nat)] 24)).alloc (.cells #[.int .i64 k, .slice none 0 0] 30)))) := by
    intro W hW
    refine (hend W).mono ?_
    rintro e w' ⟨rfl, hb⟩
    have hb2 : Below wb.heap.size wb w' := hW.out.trans (hb.mono hW.out.size)
    obtain ⟨g1, g2⟩ := hnew w' hb2
    have hz2 := hb2.size
    obtain ⟨W3, hW3⟩ : ∃ W3, ((w'.alloc (.cells #[.int .i64 (A1 : Nat), .int .i64 (A2 : Nat)] 24)).alloc (.cells #[.int .i64 (B1 : Nat), .int .i64 (B2 : Nat)] 24)).alloc (.cells #[.int .i64 k, .slice none 0 0] 30) = W3 := ⟨_, rfl⟩
    obtain ⟨q1, q2, q3⟩ := three_new w' _ _ _ _ _ _ W3 (by rw [← hW3]; exact Below.refl _ _)
    have hb3 : Below w'.heap.size w' W3 := by rw [← hW3]; exact (((Below.refl _ _).alloc (Nat.le_refl _) _).alloc (by simp) _).alloc (by simp; omega) _
    have hs3 : W3.heap.size = w'.heap.size + 3 := by rw [← hW3]; simp
    rw [hW3]
    rw [hbe] at g1 g2
    refine ⟨rfl, cell_row g1 4, heap_lt g1, ⟨(hb3.block _ (by omega)).trans g1, (hb3.block _ (by omega)).trans g2, by rw [hB1, hB2]; exact q2, q3, ?_, ?_, by omega, by omega⟩⟩
    · exact FreshL.nil _ _
    · rw [← hbe]; exact (hB.trans (hb2.mono (by omega))).trans (hb3.mono (by omega))
  obtain ⟨g1, g2⟩ := hnew wb (Below.refl _ _)
  rw [hbe] at g1
  have f0 := cell_row g1 0
  have f1 := cell_row g1 1
  have f2 := cell_row g1 2
  have f3 := cell_row g1 3
  have f4 := cell_row g1 4
  have fl := heap_lt g1
  have HPT := Lib.hid (And.intro h (And.intro hl hs))
  have HPA := Lib.hid hpart
  have HW := Lib.hid hwb
  have HBE := Lib.hid hbe
  have HB1 := Lib.hid (And.intro hB1 hB2)
  have HA1 := Lib.hid hA1
  rw [hbe]
  clear hwb hnew hsz hB h g1 g2 hbe hth hp hq hoA hoB hend hpart hB1 hB2 hA1 hA2 hendE hov htk hs hl
  obtain ⟨p1, p2⟩ := p
  obtain ⟨q1, q2⟩ := q
  simp only at f0 f1 f2 f3 f4 HC HE HPA ⊢
  go_enter Try.func14, Try.ntmps14
  go_upto_region 1 with fail
  rw [HBE.out, HW.out]
  go_upto_region 4 with (go_at_call 42; (refine (HC.out _ rfl).mono ?_); rintro e w1 ⟨rfl, ⟨u0, u1, u2, u3, u4, ul⟩, HB1'⟩; (simp only [upP] at u0 u1 u2 u3 u4))
  clear f0 f1 f2 f3 f4 fl
  go_upto_region 7 with (go_at_call 43; (refine (HE.out _ HB1').mono ?_); rintro e w2 ⟨rfl, v4, vl, HT⟩)
  obtain ⟨w3, hw3⟩ : ∃ w3, ((w2.alloc (.cells #[.int .i64 (A1 : Nat), .int .i64 (A2 : Nat)] 24)).alloc (.cells #[.int .i64 (B1 : Nat), .int .i64 (B2 : Nat)] 24)).alloc (.cells #[.int .i64 k, .slice none 0 0] 30) = w3 := ⟨_, rfl⟩
  obtain ⟨d, hd⟩ : ∃ d, w2.heap.size = d := ⟨_, rfl⟩
  rw [hw3, hd] at HT
  rw [hw3, hd]
  clear hw3 hd u0 u1 u2 u3 u4 ul v4 vl HB1' HC HE HW
  go_loopw [10, 11, 12] (fun v10 v11 v12 wr => ∃ (j : Nat) (ra : Option Addr) (rc : Nat), v10 = .int .i64 ((A1 + j : Nat) : Int) ∧ j ≤ B1 + 1 - A1 ∧ Hid (TkS w b d L (p1, p2) (q1, q2) k j ra rc wr)) (fun v10 _ _ _ => B1 + 1 - (intOf v10).toNat)
  case atStart => exact ⟨0, none, 0, by go_num, by omega, HT⟩
  case round =>
    obtain ⟨j, ra, rc, rfl, hj, hst⟩ := hrel
    obtain ⟨t1, t2, t3, t4, t5, t6, t7, t8⟩ := hst.out
    rw [HB1.out.1, HB1.out.2] at t3
    have x0 := cell_row t1 0
    have x1 := cell_row t1 1
    have x2 := cell_row t1 2
    have x3 := cell_row t1 3
    have x4 := cell_row t1 4
    have xl := heap_lt t1
    have y0 := cell_row t3 0
    have yl := heap_lt t3
    have s0 := cell_row t4 0
    have s1 := cell_row t4 1
    have sl := heap_lt t4
    by_cases hlt : A1 + j ≤ B1
    · have hir : A1 + j < n := by omega
      obtain ⟨x, hx⟩ : ∃ x, L[A1 + j]? = some x := ⟨_, List.getElem?_eq_getElem (by have := HPT.out.2.1; omega)⟩
      have hxl : x.length ≤ 1048576 := by
        have hm : x.length ∈ lens L := List.mem_map.2 ⟨_, List.mem_of_getElem? hx, rfl⟩
        have := sizeN_mem hm
        have := HPT.out.2.2
        omega
      have hin : partIn k (p1, p2) (q1, q2) (A1 + j) x x.length = inL L k (p1, p2) (q1, q2) ((endsR (p1, p2) (q1, q2)).1.1 + j) := by
        rw [HA1.out]; unfold inL; rw [lnL_of hx]
      have HC : Hid (∀ W, W = wr → Calls Try.prog 44 #[.slice a n c, .int .i64 ((A1 + j : Nat) : Int), .agg #[.int .i64 (p1 : Nat), .int .i64 (p2 : Nat), .int .i64 (q1 : Nat), .int .i64 (q2 : Nat), .int .i64 k]] W fun e w' => ∃ a1 m1 c1 a2 m2 c2, e = .returned (.tuple #[.slice a1 m1 c1, .slice a2 m2 c2]) ∧ w'.cell? ⟨d + 2, 1, none⟩ = some (.slice ra j rc) ∧ d + 2 < w'.heap.size ∧
          ∃ a3 c3 w3, Hid (∀ ty, (Builtin.append_ #[22, 22] ty #[.slice ra j rc, .slice (some ⟨w'.heap.size, 0, none⟩) 1 1]).run Try.prog (w'.alloc (.cells #[.slice a1 m1 c1] 35)) = .ok (.slice a3 (j + 1) c3) w3) ∧ w3.cell? ⟨d + 2, 1, none⟩ = some (.slice ra j rc) ∧ w3.frozen? ⟨d + 2, 1, none⟩ = false ∧ d + 2 < w3.heap.size ∧
            Hid (TkS w b d L (p1, p2) (q1, q2) k (j + 1) a3 c3 (w3.setCell ⟨d + 2, 1, none⟩ (.slice a3 (j + 1) c3)))) := by
        rintro W rfl
        have hbw : Below w.heap.size w W := by rw [HBE.out]; exact hst.out.hb
        refine (HPA.out (A1 + j) x W (HPT.out.1.below hbw) hx hxl).mono ?_
        rintro e w' ⟨a1, c1, a2, c2, rfl, ho1, ho2, hb2⟩
        obtain ⟨a3, c3, w3', h1, h2, h3⟩ := hst.out.step HBE.out hb2 hin rfl ho1 (by omega)
        have hg := (hb2.block (d + 2) sl).trans hst.out.g
        exact ⟨a1, _, c1, a2, _, c2, rfl, cell_row hg 1, heap_lt hg, a3, c3, w3', h1, cell_row h2 1, frozen_row h2 1, heap_lt h2, h3⟩
      clear hst hx hxl hin t1 t2 t3 t4 t5 t6
      go_wp2_with (first
        | (at_builtin; go_must (with_reducible refine Lib.wpList_append_run _ rfl (.tmp 44) (.tmp 46) _ _ rfl _ _ rfl rfl _ _ (HRUN.out _) ?_))
        | (go_at_call 44; (refine (HC.out _ rfl).mono ?_); rintro e w5 ⟨a1, m1, c1, a2, m2, c2, rfl, z1, z2, a3, c3, w6, HRUN, z3, z4, z5, HN⟩))
      go_roundw
      case rel => exact ⟨j + 1, a3, c3, by go_num, by omega, HN⟩
      case measure => simp [intOf]; omega
    · have hje : j = B1 + 1 - A1 := by omega
      subst hje
      have n0 := cell_row t2 0
      have n1 := cell_row t2 1
      have nf0 := frozen_row t2 0
      have nf1 := frozen_row t2 1
      have nl := heap_lt t2
      have HF : Hid (FreshL (d + 3) wr ra (B1 + 1 - A1) rc (insL L k (p1, p2) (q1, q2) A1 (B1 + 1 - A1)) ∧ Below b w wr) := ⟨by rw [HA1.out] at t5; exact t5, t6⟩
      clear hst t1 t2 t3 t4 t5 t6
      have hgt : (B1 : Int) < ((A1 + (B1 + 1 - A1) : Nat) : Int) := by omega
      go_wp2_with fail
      refine bodyPost_ret (v := .tuple #[rgV k ra (B1 + 1 - A1) rc, .int .i64 0]) ?_ rfl ⟨ra, rc, rfl, ?_⟩
      · rw [results_ct rfl]
        go_simp
        first | rfl | done
      · have hfr : ∀ u v, Fr (fun k => k = b + 1) wr ((wr.setCell ⟨b + 1, 0, none⟩ u).setCell ⟨b + 1, 1, none⟩ v) := fun u v => ((Fr.refl (fun k => k = b + 1) wr).setCell ⟨b + 1, 0, none⟩ _ (fun _ => rfl)).setCell ⟨b + 1, 1, none⟩ _ (fun _ => rfl)
        exact ⟨(HF.out.1.fr (hfr _ _) (fun k hk e => by omega)).mono (by omega), setCell_below (setCell_below HF.out.2 _ _ _ (by omega)) _ _ _ (by omega)⟩
end Go.Proofs.Ytfldjoiohejilaa.U
