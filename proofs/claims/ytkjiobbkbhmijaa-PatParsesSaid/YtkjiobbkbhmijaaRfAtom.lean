/-
  The document's reader: an atom.
-/
import Derived.Test.YtkjiobbkbhmijaaRfGrp
import Derived.Test.YtkjiobbkbhmijaaRfSetN
namespace Go.Proofs.Ytkjiobbkbhmijaa.U
open Go.RowKit
set_option linter.unusedVariables false
set_option linter.unusedSimpArgs false
set_option maxRecDepth 100000

/-- an answer that is handed on through the result's block -/
theorem RfAns.wrap {w W : World} {br : Nat} {p : List Int} {o : Nat} {r : Rs (Re × List Int × Nat)} {e : Ending} {w5 : World} (hb : Below w.heap.size w W) (hg : W.heap[w.heap.size]? = some (.cells #[.int .i64 0, .int .i32 0, .slice none 0 0, .bool false, .int .i64 0, .int .i64 0, .slice none 0 0] 26 (0, 0))) (hbr : br < w.heap.size) (h : RfAns W br p o r e w5) :
    ∃ k4 r4 sa4 sn4 sc4 nt4 l4 h4 pa4 pn4 pc4, e = .returned (.agg #[.int .i64 k4, .int .i32 r4, .slice sa4 sn4 sc4, .bool nt4, .int .i64 l4, .int .i64 h4, .slice pa4 pn4 pc4]) ∧ w5.heap[w.heap.size]? = some (.cells #[.int .i64 0, .int .i32 0, .slice none 0 0, .bool false, .int .i64 0, .int .i64 0, .slice none 0 0] 26 (0, 0)) ∧
      Hid (∀ W', Fr (fun j => j = w.heap.size) w5 W' → RfAns w br p o r (.returned (.agg #[.int .i64 k4, .int .i32 r4, .slice sa4 sn4 sc4, .bool nt4, .int .i64 l4, .int .i64 h4, .slice pa4 pn4 pc4])) W') := by
  have hW := heap_lt hg
  match r, h with
  | .error c, ⟨k4, r4, sa4, sn4, sc4, nt4, l4, h4, pa4, pn4, pc4, he, hx, hf⟩ =>
    refine ⟨k4, r4, sa4, sn4, sc4, nt4, l4, h4, pa4, pn4, pc4, he, (hf.block _ hW (fun e => by omega)).trans hg, fun W' hW' => ?_⟩
    exact RfAns.err (RfAns.putX ((Fr.of_below (fun k => k = br ∨ w.heap.size ≤ k) hb).trans hf (fun k _ h => Or.inl h)) hx hbr hW')
  | .ok (y, l', n'), ⟨k4, r4, sa4, sn4, sc4, nt4, l4, h4, pa4, pn4, pc4, he, hre, hx, hf⟩ =>
    refine ⟨k4, r4, sa4, sn4, sc4, nt4, l4, h4, pa4, pn4, pc4, he, (hf.block _ hW (fun e => by omega)).trans hg, fun W' hW' => ?_⟩
    have hs := hf.size
    exact RfAns.ok (RfAns.put (w2 := w5) (by omega) ((Fr.of_below (fun k => k = br ∨ w.heap.size ≤ k) hb).trans hf (fun k _ h => Or.inl h)) (ReAt.mono (fun k hk => ⟨by have := hk.1; omega, hk.2⟩) y hre) hx hbr hW')
/-- a fault's answer, as an answer -/
theorem FlAns.ans {w w' : World} {br : Nat} {p : List Int} {o : Nat} {c : Int} {e : Ending} (h : FlAns w br p c e w') : RfAns w br p o (.error c) e w' := ⟨_, _, _, _, _, _, _, _, _, _, _, h.1, h.2.out⟩

set_option maxHeartbeats 2000000 in
theorem ratom_beg (br : Nat) (p l : List Int) (n o : Nat) (w : World) (b2 : Bool) (h : RfN w br p (94 :: l) n o) :
    Calls Try.prog 29 #[.pointer (some ⟨br, 0, none⟩), .bool true, .bool b2] w (RfAns w br p o (.ok (Re.one 4, l, n))) := by
  obtain ⟨c, hc⟩ : ∃ c : Int, 94 = c := ⟨_, rfl⟩
  rw [hc] at h

  have hbr := h.lt
  obtain ⟨w1, hw1, hb1, hg1⟩ := res7 w
  obtain ⟨i, hs, hl, hi, hn, hp, ho⟩ := h.below hb1
  obtain ⟨hiq, hc0, hl1⟩ := drop_cons hl
  obtain ⟨a, cap, hlook⟩ := hs.look
  obtain ⟨e0, e1, e2, e3, e4, fz, hr, -⟩ := hlook (fun _ => False) w1 (Fr.refl _ _) (fun _ h => h.elim)
  obtain ⟨b, off, rfl, -, hcell⟩ := hr.at_ hiq
  have hci := hr.i32 i
  rw [hc0] at hcell hci
  obtain ⟨hcb0, hcb1⟩ := hci
  obtain ⟨q, hq⟩ : ∃ q, p.length = q := ⟨_, rfl⟩
  rw [hq] at e0 hiq hi hp
  have hg : (i : Int) < (q : Int) := by omega
  have hpq : q ≤ 1000000 := by omega
  have HQ := Lib.hid hq
  have HL1 := Lib.hid hl1
  have HBR := Lib.hid hbr
  have HB1 := Lib.hid hb1
  have HW1 := Lib.hid hw1
  have HLK : Hid (∀ W, Below w1.heap.size w1 W → W.cell? ⟨br, 0, none⟩ = some (.slice (some ⟨b, off, none⟩) q cap) ∧ W.cell? ⟨br, 1, none⟩ = some (.int .i64 (i : Nat)) ∧ (∀ k, k < q → W.cell? ⟨b, off + k, none⟩ = some (.int .i32 (p.getD k 0))) ∧ RfS W br p i n o 0) := by
    intro W hW
    obtain ⟨f0, f1, f2, f3, f4, fz', hr', hs'⟩ := hlook (fun _ => False) W (Fr.of_below _ hW) (fun _ h => h.elim)
    rw [hq] at f0
    refine ⟨f0, f1, fun k hk => ?_, hs'⟩
    obtain ⟨b', off', ea, _, hcc⟩ := hr'.at_ (i := k) (by omega)
    cases ea
    exact hcc
  have HN : Hid (∀ W, Below w1.heap.size w1 W → RfN W br p (c :: l) n o) := fun W hW => RfN.below (w := w1) ⟨i, hs, hl, by omega, hn, by omega, ho⟩ hW
  have HWR : Hid (∀ W, Below w1.heap.size w1 W → ∀ (r : Rs (Re × List Int × Nat)) (e : Ending) (w5 : World), RfAns W br p o r e w5 → ∃ k4 r4 sa4 sn4 sc4 nt4 l4 h4 pa4 pn4 pc4, e = .returned (.agg #[.int .i64 k4, .int .i32 r4, .slice sa4 sn4 sc4, .bool nt4, .int .i64 l4, .int .i64 h4, .slice pa4 pn4 pc4]) ∧ w5.heap[w.heap.size]? = some (.cells #[.int .i64 0, .int .i32 0, .slice none 0 0, .bool false, .int .i64 0, .int .i64 0, .slice none 0 0] 26 (0, 0)) ∧
      Hid (∀ W', Fr (fun j => j = w.heap.size) w5 W' → RfAns w br p o r (.returned (.agg #[.int .i64 k4, .int .i32 r4, .slice sa4 sn4 sc4, .bool nt4, .int .i64 l4, .int .i64 h4, .slice pa4 pn4 pc4])) W')) := fun W hW r e w5 h5 => RfAns.wrap (hb1.trans (hW.mono hb1.size)) ((hW.block _ (heap_lt hg1)).trans hg1) hbr h5
  clear hw1 hb1 hg1 hs hl hlook fz hr hq hn hp ho h hl1 hi hc0 e2 e3 e4

  subst hc
  obtain ⟨R0, hR0⟩ : ∃ R0 : Rs (Re × List Int × Nat), .ok (Re.one 4, l, n) = R0 := ⟨_, rfl⟩
  rw [hR0]
  have HR9 : Hid (R0 = .ok (Re.one 4, l, n)) := hR0.symm
  clear hR0

  go_enter Try.func29, Try.ntmps29
  go_upto_region 1 with fail
  rw [HW1.out]
  go_quiet (fail)
  obtain ⟨wv, hwv⟩ : ∃ wv, w1.drewN nq = wv := ⟨_, rfl⟩
  have HWV : Hid (Below w1.heap.size w1 wv) := by rw [← hwv]; exact bdrewN (Below.refl _ _) _
  rw [hwv]
  clear hwv e0 e1 hcell
  go_wp2_with (go_at_call 35; refine (kind_any br p (94 :: l) n o wv (HN.out wv HWV.out) 4 1 1 rfl (by simp)).mono ?_; intro e w5 hh; obtain ⟨k4, r4, sa4, sn4, sc4, nt4, l4, h4, pa4, pn4, pc4, he, hg5, HFIN⟩ := HWR.out wv HWV.out _ e w5 (hh); subst he; clear hh; obtain ⟨a0, a1, a2, a3, a4, a5, a6, z0, z1, z2, z3, z4, z5, z6⟩ := row7 hg5; have HPUT := Lib.hid (put7 hg5 (.int .i64 k4) (.int .i32 r4) (.slice sa4 sn4 sc4) (.bool nt4) (.int .i64 l4) (.int .i64 h4) (.slice pa4 pn4 pc4)); clear hg5)
  refine bodyPost_ret (v := .agg #[.int .i64 k4, .int .i32 r4, .slice sa4 sn4 sc4, .bool nt4, .int .i64 l4, .int .i64 h4, .slice pa4 pn4 pc4]) ?_ rfl ?_
  · rw [results_cell1 rfl]
    go_simp
  · show RfAns w br p o R0 _ _
    rw [HR9.out]
    exact HFIN.out _ HPUT.out.2

set_option maxHeartbeats 4000000 in
theorem ratom_any (rec : Rec) (br : Nat) (p l : List Int) (c : Int) (n o : Nat) (w : World) (b1 b2 : Bool) (hrec : o < 16 → AltsD rec (o + 1)) (hnz : o ≠ 16 → RecNZ rec (o + 1)) (hend : RecEnd rec) (hp5 : p.length ≤ 99999) (h : RfN w br p (c :: l) n o) (hb : b1 = false ∨ c ≠ 94) :
    Calls Try.prog 29 #[.pointer (some ⟨br, 0, none⟩), .bool b1, .bool b2] w (RfAns w br p o (atomR rec (c :: l) n o)) := by

  have hbr := h.lt
  obtain ⟨w1, hw1, hb1, hg1⟩ := res7 w
  obtain ⟨i, hs, hl, hi, hn, hp, ho⟩ := h.below hb1
  obtain ⟨hiq, hc0, hl1⟩ := drop_cons hl
  obtain ⟨a, cap, hlook⟩ := hs.look
  obtain ⟨e0, e1, e2, e3, e4, fz, hr, -⟩ := hlook (fun _ => False) w1 (Fr.refl _ _) (fun _ h => h.elim)
  obtain ⟨b, off, rfl, -, hcell⟩ := hr.at_ hiq
  have hci := hr.i32 i
  rw [hc0] at hcell hci
  obtain ⟨hcb0, hcb1⟩ := hci
  obtain ⟨q, hq⟩ : ∃ q, p.length = q := ⟨_, rfl⟩
  rw [hq] at e0 hiq hi hp
  have hg : (i : Int) < (q : Int) := by omega
  have hpq : q ≤ 1000000 := by omega
  have HQ := Lib.hid hq
  have HL1 := Lib.hid hl1
  have HBR := Lib.hid hbr
  have HB1 := Lib.hid hb1
  have HW1 := Lib.hid hw1
  have HLK : Hid (∀ W, Below w1.heap.size w1 W → W.cell? ⟨br, 0, none⟩ = some (.slice (some ⟨b, off, none⟩) q cap) ∧ W.cell? ⟨br, 1, none⟩ = some (.int .i64 (i : Nat)) ∧ (∀ k, k < q → W.cell? ⟨b, off + k, none⟩ = some (.int .i32 (p.getD k 0))) ∧ RfS W br p i n o 0) := by
    intro W hW
    obtain ⟨f0, f1, f2, f3, f4, fz', hr', hs'⟩ := hlook (fun _ => False) W (Fr.of_below _ hW) (fun _ h => h.elim)
    rw [hq] at f0
    refine ⟨f0, f1, fun k hk => ?_, hs'⟩
    obtain ⟨b', off', ea, _, hcc⟩ := hr'.at_ (i := k) (by omega)
    cases ea
    exact hcc
  have HN : Hid (∀ W, Below w1.heap.size w1 W → RfN W br p (c :: l) n o) := fun W hW => RfN.below (w := w1) ⟨i, hs, hl, by omega, hn, by omega, ho⟩ hW
  have HWR : Hid (∀ W, Below w1.heap.size w1 W → ∀ (r : Rs (Re × List Int × Nat)) (e : Ending) (w5 : World), RfAns W br p o r e w5 → ∃ k4 r4 sa4 sn4 sc4 nt4 l4 h4 pa4 pn4 pc4, e = .returned (.agg #[.int .i64 k4, .int .i32 r4, .slice sa4 sn4 sc4, .bool nt4, .int .i64 l4, .int .i64 h4, .slice pa4 pn4 pc4]) ∧ w5.heap[w.heap.size]? = some (.cells #[.int .i64 0, .int .i32 0, .slice none 0 0, .bool false, .int .i64 0, .int .i64 0, .slice none 0 0] 26 (0, 0)) ∧
      Hid (∀ W', Fr (fun j => j = w.heap.size) w5 W' → RfAns w br p o r (.returned (.agg #[.int .i64 k4, .int .i32 r4, .slice sa4 sn4 sc4, .bool nt4, .int .i64 l4, .int .i64 h4, .slice pa4 pn4 pc4])) W')) := fun W hW r e w5 h5 => RfAns.wrap (hb1.trans (hW.mono hb1.size)) ((hW.block _ (heap_lt hg1)).trans hg1) hbr h5
  clear hw1 hb1 hg1 hs hl hlook fz hr hq hn hp ho h hl1 hi hc0 e2 e3 e4

  obtain ⟨R0, hR0⟩ : ∃ R0, atomR rec (c :: l) n o = R0 := ⟨_, rfl⟩
  rw [hR0]
  have HATM : Hid (R0 = if c = 46 then .ok (Re.one 2, l, n) else if c = 91 then setN l n else if c = 36 ∧ ended l = true then .ok (Re.one 5, l, n) else if c = 92 then escR rec l n o else .ok (Re.rune c, l, n)) := hR0.symm
  have HREC := Lib.hid hrec
  have HP5 : Hid (p.length ≤ 99999) := hp5
  clear hp5
  have HNZ := Lib.hid hnz
  have HEND := Lib.hid hend
  have HBB := Lib.hid hb
  clear hR0 hrec hnz hend hb
  by_cases h46 : c = 46
  · subst h46
    have HR9 : Hid (R0 = .ok (Re.one 2, l, n)) := by show _ = _; rw [HATM.out, if_pos rfl]
    go_enter Try.func29, Try.ntmps29
    go_upto_region 1 with fail
    rw [HW1.out]
    go_quiet (fail)
    obtain ⟨wv, hwv⟩ : ∃ wv, w1.drewN nq = wv := ⟨_, rfl⟩
    have HWV : Hid (Below w1.heap.size w1 wv) := by rw [← hwv]; exact bdrewN (Below.refl _ _) _
    rw [hwv]
    clear hwv e0 e1 hcell
    go_wp2_with (go_at_call 35; refine (kind_any br p (46 :: l) n o wv (HN.out wv HWV.out) 2 1 1 rfl (by simp)).mono ?_; intro e w5 hh; obtain ⟨k4, r4, sa4, sn4, sc4, nt4, l4, h4, pa4, pn4, pc4, he, hg5, HFIN⟩ := HWR.out wv HWV.out _ e w5 (hh); subst he; clear hh; obtain ⟨a0, a1, a2, a3, a4, a5, a6, z0, z1, z2, z3, z4, z5, z6⟩ := row7 hg5; have HPUT := Lib.hid (put7 hg5 (.int .i64 k4) (.int .i32 r4) (.slice sa4 sn4 sc4) (.bool nt4) (.int .i64 l4) (.int .i64 h4) (.slice pa4 pn4 pc4)); clear hg5)
    refine bodyPost_ret (v := .agg #[.int .i64 k4, .int .i32 r4, .slice sa4 sn4 sc4, .bool nt4, .int .i64 l4, .int .i64 h4, .slice pa4 pn4 pc4]) ?_ rfl ?_
    · rw [results_cell1 rfl]
      go_simp
    · show RfAns w br p o R0 _ _
      rw [HR9.out]
      exact HFIN.out _ HPUT.out.2
  have g46 : (c == 46) = false := by simpa using h46
  by_cases h91 : c = 91
  · subst h91
    have HR9 : Hid (R0 = setN l n) := by show _ = _; rw [HATM.out, if_neg h46, if_pos rfl]
    clear h46
    go_enter Try.func29, Try.ntmps29
    go_upto_region 1 with fail
    rw [HW1.out]
    go_quiet (fail)
    obtain ⟨wv, hwv⟩ : ∃ wv, w1.drewN nq = wv := ⟨_, rfl⟩
    have HWV : Hid (Below w1.heap.size w1 wv) := by rw [← hwv]; exact bdrewN (Below.refl _ _) _
    rw [hwv]
    clear hwv e0 e1 hcell
    go_wp2_with (go_at_call 36; refine (rset_any br p l n o wv (HN.out wv HWV.out)).mono ?_; intro e w5 hh; obtain ⟨k4, r4, sa4, sn4, sc4, nt4, l4, h4, pa4, pn4, pc4, he, hg5, HFIN⟩ := HWR.out wv HWV.out _ e w5 (hh); subst he; clear hh; obtain ⟨a0, a1, a2, a3, a4, a5, a6, z0, z1, z2, z3, z4, z5, z6⟩ := row7 hg5; have HPUT := Lib.hid (put7 hg5 (.int .i64 k4) (.int .i32 r4) (.slice sa4 sn4 sc4) (.bool nt4) (.int .i64 l4) (.int .i64 h4) (.slice pa4 pn4 pc4)); clear hg5)
    refine bodyPost_ret (v := .agg #[.int .i64 k4, .int .i32 r4, .slice sa4 sn4 sc4, .bool nt4, .int .i64 l4, .int .i64 h4, .slice pa4 pn4 pc4]) ?_ rfl ?_
    · rw [results_cell1 rfl]
      go_simp
    · show RfAns w br p o R0 _ _
      rw [HR9.out]
      exact HFIN.out _ HPUT.out.2
  have g91 : (c == 91) = false := by simpa using h91
  by_cases h36 : c = 36
  · subst h36
    have k1 : (i : Int) + 1 = ((i + 1 : Nat) : Int) := by omega
    obtain ⟨i1, hi1⟩ : ∃ i1, i + 1 = i1 := ⟨_, rfl⟩
    rw [hi1] at k1
    have HI1 : Hid (l = p.drop i1) := by show _ = _; rw [HL1.out, hi1]
    have HEN : Hid (∀ W, Below w1.heap.size w1 W → Calls Try.prog 28 #[.pointer (some ⟨br, 0, none⟩), .int .i64 (i1 : Nat)] W fun e w' => e = .returned (.bool (ended l)) ∧ Below W.heap.size W w') := by
      intro W hW
      have := ends_any br p i n o 0 i1 W (HLK.out W hW).2.2.2 (by omega)
      rw [← HI1.out] at this
      exact this
    clear hi1
    cases he : ended l with
    | true =>
      have HR9 : Hid (R0 = .ok (Re.one 5, l, n)) := by show _ = _; rw [HATM.out, if_neg (by decide), if_neg (by decide), if_pos ⟨rfl, he⟩]
      rw [he] at HEN
      clear he h46 h91
      go_enter Try.func29, Try.ntmps29
      go_upto_region 1 with fail
      rw [HW1.out]
      go_quiet (fail)
      obtain ⟨wv, hwv⟩ : ∃ wv, w1.drewN nq = wv := ⟨_, rfl⟩
      have HWV : Hid (Below w1.heap.size w1 wv) := by rw [← hwv]; exact bdrewN (Below.refl _ _) _
      rw [hwv]
      clear hwv e0 e1 hcell
      obtain ⟨c0, c1, -, -⟩ := HLK.out wv HWV.out
      go_wp2_with (first
        | (go_at_call 28; refine (HEN.out wv HWV.out).mono ?_; rintro e w9 ⟨rfl, hb9⟩; have HB9 := Lib.hid (HWV.out.trans (hb9.mono HWV.out.size)); clear hb9)
        | (go_at_call 35; refine (kind_any br p (36 :: l) n o w9 (HN.out w9 HB9.out) 5 1 1 rfl (by simp)).mono ?_; intro e w5 hh; obtain ⟨k4, r4, sa4, sn4, sc4, nt4, l4, h4, pa4, pn4, pc4, he, hg5, HFIN⟩ := HWR.out w9 HB9.out _ e w5 (hh); subst he; clear hh; obtain ⟨a0, a1, a2, a3, a4, a5, a6, z0, z1, z2, z3, z4, z5, z6⟩ := row7 hg5; have HPUT := Lib.hid (put7 hg5 (.int .i64 k4) (.int .i32 r4) (.slice sa4 sn4 sc4) (.bool nt4) (.int .i64 l4) (.int .i64 h4) (.slice pa4 pn4 pc4)); clear hg5))
      refine bodyPost_ret (v := .agg #[.int .i64 k4, .int .i32 r4, .slice sa4 sn4 sc4, .bool nt4, .int .i64 l4, .int .i64 h4, .slice pa4 pn4 pc4]) ?_ rfl ?_
      · rw [results_cell1 rfl]
        go_simp
      · show RfAns w br p o R0 _ _
        rw [HR9.out]
        exact HFIN.out _ HPUT.out.2
    | false =>
      have HR9 : Hid (R0 = .ok (Re.rune 36, l, n)) := by show _ = _; rw [HATM.out, if_neg (by decide), if_neg (by decide), if_neg (by rw [he]; simp), if_neg (by decide)]
      rw [he] at HEN
      clear he h46 h91
      go_enter Try.func29, Try.ntmps29
      go_upto_region 1 with fail
      rw [HW1.out]
      go_quiet (fail)
      obtain ⟨wv, hwv⟩ : ∃ wv, w1.drewN nq = wv := ⟨_, rfl⟩
      have HWV : Hid (Below w1.heap.size w1 wv) := by rw [← hwv]; exact bdrewN (Below.refl _ _) _
      rw [hwv]
      clear hwv e0 e1 hcell
      obtain ⟨c0, c1, -, -⟩ := HLK.out wv HWV.out
      go_wp2_with (first
        | (go_at_call 28; refine (HEN.out wv HWV.out).mono ?_; rintro e w9 ⟨rfl, hb9⟩; have HB9 := Lib.hid (HWV.out.trans (hb9.mono HWV.out.size)); clear hb9)
        | (go_at_call 37; refine (one_any br p (36 :: l) n o w9 (HN.out w9 HB9.out) 36 1 1 rfl (by simp)).mono ?_; intro e w5 hh; obtain ⟨k4, r4, sa4, sn4, sc4, nt4, l4, h4, pa4, pn4, pc4, he, hg5, HFIN⟩ := HWR.out w9 HB9.out _ e w5 (hh); subst he; clear hh; obtain ⟨a0, a1, a2, a3, a4, a5, a6, z0, z1, z2, z3, z4, z5, z6⟩ := row7 hg5; have HPUT := Lib.hid (put7 hg5 (.int .i64 k4) (.int .i32 r4) (.slice sa4 sn4 sc4) (.bool nt4) (.int .i64 l4) (.int .i64 h4) (.slice pa4 pn4 pc4)); clear hg5))
      refine bodyPost_ret (v := .agg #[.int .i64 k4, .int .i32 r4, .slice sa4 sn4 sc4, .bool nt4, .int .i64 l4, .int .i64 h4, .slice pa4 pn4 pc4]) ?_ rfl ?_
      · rw [results_cell1 rfl]
        go_simp
      · show RfAns w br p o R0 _ _
        rw [HR9.out]
        exact HFIN.out _ HPUT.out.2
  have g36 : (c == 36) = false := by simpa using h36
  by_cases h92 : c = 92
  rotate_left
  · have HR9 : Hid (R0 = .ok (Re.rune c, l, n)) := by show _ = _; rw [HATM.out, if_neg h46, if_neg h91, if_neg (fun h => h36 h.1), if_neg h92]
    have g92 : (c != 92) = true := by simpa using h92
    clear h46 h91 h36 h92
    by_cases h94 : c = 94
    · have hb1 : b1 = false := HBB.out.resolve_right (fun h => h h94)
      subst hb1
      subst h94
      clear g46 g91 g36 g92
      go_enter Try.func29, Try.ntmps29
      go_upto_region 1 with fail
      rw [HW1.out]
      go_quiet (fail)
      obtain ⟨wv, hwv⟩ : ∃ wv, w1.drewN nq = wv := ⟨_, rfl⟩
      have HWV : Hid (Below w1.heap.size w1 wv) := by rw [← hwv]; exact bdrewN (Below.refl _ _) _
      rw [hwv]
      clear hwv e0 e1 hcell
      go_wp2_with (go_at_call 37; refine (one_any br p (94 :: l) n o wv (HN.out wv HWV.out) 94 1 1 rfl (by simp)).mono ?_; intro e w5 hh; obtain ⟨k4, r4, sa4, sn4, sc4, nt4, l4, h4, pa4, pn4, pc4, he, hg5, HFIN⟩ := HWR.out wv HWV.out _ e w5 (hh); subst he; clear hh; obtain ⟨a0, a1, a2, a3, a4, a5, a6, z0, z1, z2, z3, z4, z5, z6⟩ := row7 hg5; have HPUT := Lib.hid (put7 hg5 (.int .i64 k4) (.int .i32 r4) (.slice sa4 sn4 sc4) (.bool nt4) (.int .i64 l4) (.int .i64 h4) (.slice pa4 pn4 pc4)); clear hg5)
      refine bodyPost_ret (v := .agg #[.int .i64 k4, .int .i32 r4, .slice sa4 sn4 sc4, .bool nt4, .int .i64 l4, .int .i64 h4, .slice pa4 pn4 pc4]) ?_ rfl ?_
      · rw [results_cell1 rfl]
        go_simp
      · show RfAns w br p o R0 _ _
        rw [HR9.out]
        exact HFIN.out _ HPUT.out.2
    · have g94 : (c == 94) = false := by simpa using h94
      clear h94
      go_enter Try.func29, Try.ntmps29
      go_upto_region 1 with fail
      rw [HW1.out]
      go_quiet (fail)
      obtain ⟨wv, hwv⟩ : ∃ wv, w1.drewN nq = wv := ⟨_, rfl⟩
      have HWV : Hid (Below w1.heap.size w1 wv) := by rw [← hwv]; exact bdrewN (Below.refl _ _) _
      rw [hwv]
      clear hwv e0 e1 hcell
      go_wp2_with (go_at_call 37; refine (one_any br p (c :: l) n o wv (HN.out wv HWV.out) c 1 1 rfl (by simp)).mono ?_; intro e w5 hh; obtain ⟨k4, r4, sa4, sn4, sc4, nt4, l4, h4, pa4, pn4, pc4, he, hg5, HFIN⟩ := HWR.out wv HWV.out _ e w5 (hh); subst he; clear hh; obtain ⟨a0, a1, a2, a3, a4, a5, a6, z0, z1, z2, z3, z4, z5, z6⟩ := row7 hg5; have HPUT := Lib.hid (put7 hg5 (.int .i64 k4) (.int .i32 r4) (.slice sa4 sn4 sc4) (.bool nt4) (.int .i64 l4) (.int .i64 h4) (.slice pa4 pn4 pc4)); clear hg5)
      refine bodyPost_ret (v := .agg #[.int .i64 k4, .int .i32 r4, .slice sa4 sn4 sc4, .bool nt4, .int .i64 l4, .int .i64 h4, .slice pa4 pn4 pc4]) ?_ rfl ?_
      · rw [results_cell1 rfl]
        go_simp
      · show RfAns w br p o R0 _ _
        rw [HR9.out]
        exact HFIN.out _ HPUT.out.2
  subst h92
  have HESC : Hid (R0 = escR rec l n o) := by show _ = _; rw [HATM.out, if_neg h46, if_neg h91, if_neg (fun h => h36 h.1), if_pos rfl]
  clear h46 h91 h36 g46 g91 g36

  go_enter Try.func29, Try.ntmps29
  go_upto_region 1 with fail
  rw [HW1.out]
  go_quiet (fail)
  obtain ⟨wv, hwv⟩ : ∃ wv, w1.drewN nq = wv := ⟨_, rfl⟩
  have HWV : Hid (Below w1.heap.size w1 wv) := by rw [← hwv]; exact bdrewN (Below.refl _ _) _
  rw [hwv]
  clear hwv e0 e1 hcell

  obtain ⟨c0, c1, -, -⟩ := HLK.out wv HWV.out
  go_upto_region 12 with fail
  have hw1x : IntKind.i64.wrap ((i : Int) + 1) = (i : Int) + 1 := by rw [IntKind.wrap_i64]; omega
  by_cases hend2 : i + 1 = q
  · have ge : ((i : Int) + 1 == (q : Int)) = true := by simp; omega
    have HR9 : Hid (R0 = .error 5) := by
      show _ = _
      have : l = [] := by rw [HL1.out]; exact List.drop_eq_nil_of_le (by have := HQ.out; omega)
      rw [HESC.out, this]
      rfl
    go_quiet (fail)
    clear hw1x ge
    obtain ⟨wu, hwu⟩ : ∃ wu, wv.drewN nq = wu := ⟨_, rfl⟩
    have HWU : Hid (Below w1.heap.size w1 wu) := by rw [← hwu]; exact bdrewN HWV.out _
    rw [hwu]
    clear hwu
    go_wp2_with (go_at_call 38; refine (fail_any br p i n o wu (HLK.out wu HWU.out).2.2.2 5).mono ?_; intro e w5 hh; obtain ⟨k4, r4, sa4, sn4, sc4, nt4, l4, h4, pa4, pn4, pc4, he, hg5, HFIN⟩ := HWR.out wu HWU.out _ e w5 (FlAns.ans hh); subst he; clear hh; obtain ⟨a0, a1, a2, a3, a4, a5, a6, z0, z1, z2, z3, z4, z5, z6⟩ := row7 hg5; have HPUT := Lib.hid (put7 hg5 (.int .i64 k4) (.int .i32 r4) (.slice sa4 sn4 sc4) (.bool nt4) (.int .i64 l4) (.int .i64 h4) (.slice pa4 pn4 pc4)); clear hg5)
    refine bodyPost_ret (v := .agg #[.int .i64 k4, .int .i32 r4, .slice sa4 sn4 sc4, .bool nt4, .int .i64 l4, .int .i64 h4, .slice pa4 pn4 pc4]) ?_ rfl ?_
    · rw [results_cell1 rfl]
      go_simp
    · show RfAns w br p o R0 _ _
      rw [HR9.out]
      exact HFIN.out _ HPUT.out.2
  have ge : ((i : Int) + 1 == (q : Int)) = false := by simp; omega
  obtain ⟨d, l2, hdl⟩ : ∃ d l2, l = d :: l2 := by
    cases l with
    | nil =>
      exfalso
      have := congrArg List.length HL1.out
      simp only [List.length_nil, List.length_drop] at this
      have := HQ.out
      omega
    | cons d l2 => exact ⟨d, l2, rfl⟩
  subst hdl
  have HES2 : Hid (R0 = if d = 40 then grpR rec l2 n o else if d = 60 then .ok (Re.one 6, l2, n) else if d = 62 then .ok (Re.one 7, l2, n) else if d = 123 then .error 11 else if d = 125 then .error 10 else .ok (Re.rune d, l2, n)) := HESC.out
  have HD : Hid (p.getD (i + 1) 0 = d) := (drop_cons HL1.out).2.1
  go_quiet (fail)
  clear ge
  obtain ⟨wu, hwu⟩ : ∃ wu, wv.drewN nq = wu := ⟨_, rfl⟩
  have HWU : Hid (Below w1.heap.size w1 wu) := by rw [← hwu]; exact bdrewN HWV.out _
  rw [hwu]
  clear hwu c0 c1
  obtain ⟨c0, c1, c2, -⟩ := HLK.out wu HWU.out
  have hcd := c2 (i + 1) (by omega)
  rw [HD.out] at hcd
  have gi1 : (i : Int) + 1 < (q : Int) := by omega
  have gi0 : (0 : Int) ≤ (i : Int) + 1 := by omega
  have git : ((i : Int) + 1).toNat = i + 1 := by omega
  clear c2
  go_upto_region 14 with fail
  go_quiet (fail)
  clear hw1x gi1 gi0 git hcd c0 c1
  obtain ⟨wx, hwx⟩ : ∃ wx, wu.drewN nq = wx := ⟨_, rfl⟩
  have HWX : Hid (Below w1.heap.size w1 wx) := by rw [← hwx]; exact bdrewN HWU.out _
  rw [hwx]
  clear hwx
  by_cases h60 : d = 60
  · subst h60
    have HR9 : Hid (R0 = .ok (Re.one 6, l2, n)) := HES2.out
    go_wp2_with (go_at_call 35; refine (kind_any br p (92 :: 60 :: l2) n o wx (HN.out wx HWX.out) 6 2 2 rfl (by simp)).mono ?_; intro e w5 hh; obtain ⟨k4, r4, sa4, sn4, sc4, nt4, l4, h4, pa4, pn4, pc4, he, hg5, HFIN⟩ := HWR.out wx HWX.out _ e w5 (hh); subst he; clear hh; obtain ⟨a0, a1, a2, a3, a4, a5, a6, z0, z1, z2, z3, z4, z5, z6⟩ := row7 hg5; have HPUT := Lib.hid (put7 hg5 (.int .i64 k4) (.int .i32 r4) (.slice sa4 sn4 sc4) (.bool nt4) (.int .i64 l4) (.int .i64 h4) (.slice pa4 pn4 pc4)); clear hg5)
    refine bodyPost_ret (v := .agg #[.int .i64 k4, .int .i32 r4, .slice sa4 sn4 sc4, .bool nt4, .int .i64 l4, .int .i64 h4, .slice pa4 pn4 pc4]) ?_ rfl ?_
    · rw [results_cell1 rfl]
      go_simp
    · show RfAns w br p o R0 _ _
      rw [HR9.out]
      exact HFIN.out _ HPUT.out.2
  have g60 : (d == 60) = false := by simpa using h60
  by_cases h62 : d = 62
  · subst h62
    have HR9 : Hid (R0 = .ok (Re.one 7, l2, n)) := HES2.out
    clear h60
    go_wp2_with (go_at_call 35; refine (kind_any br p (92 :: 62 :: l2) n o wx (HN.out wx HWX.out) 7 2 2 rfl (by simp)).mono ?_; intro e w5 hh; obtain ⟨k4, r4, sa4, sn4, sc4, nt4, l4, h4, pa4, pn4, pc4, he, hg5, HFIN⟩ := HWR.out wx HWX.out _ e w5 (hh); subst he; clear hh; obtain ⟨a0, a1, a2, a3, a4, a5, a6, z0, z1, z2, z3, z4, z5, z6⟩ := row7 hg5; have HPUT := Lib.hid (put7 hg5 (.int .i64 k4) (.int .i32 r4) (.slice sa4 sn4 sc4) (.bool nt4) (.int .i64 l4) (.int .i64 h4) (.slice pa4 pn4 pc4)); clear hg5)
    refine bodyPost_ret (v := .agg #[.int .i64 k4, .int .i32 r4, .slice sa4 sn4 sc4, .bool nt4, .int .i64 l4, .int .i64 h4, .slice pa4 pn4 pc4]) ?_ rfl ?_
    · rw [results_cell1 rfl]
      go_simp
    · show RfAns w br p o R0 _ _
      rw [HR9.out]
      exact HFIN.out _ HPUT.out.2
  have g62 : (d == 62) = false := by simpa using h62
  by_cases h125 : d = 125
  · subst h125
    have HR9 : Hid (R0 = .error 10) := HES2.out
    clear h60 h62
    go_wp2_with (go_at_call 38; refine (fail_any br p i n o wx (HLK.out wx HWX.out).2.2.2 10).mono ?_; intro e w5 hh; obtain ⟨k4, r4, sa4, sn4, sc4, nt4, l4, h4, pa4, pn4, pc4, he, hg5, HFIN⟩ := HWR.out wx HWX.out _ e w5 (FlAns.ans hh); subst he; clear hh; obtain ⟨a0, a1, a2, a3, a4, a5, a6, z0, z1, z2, z3, z4, z5, z6⟩ := row7 hg5; have HPUT := Lib.hid (put7 hg5 (.int .i64 k4) (.int .i32 r4) (.slice sa4 sn4 sc4) (.bool nt4) (.int .i64 l4) (.int .i64 h4) (.slice pa4 pn4 pc4)); clear hg5)
    refine bodyPost_ret (v := .agg #[.int .i64 k4, .int .i32 r4, .slice sa4 sn4 sc4, .bool nt4, .int .i64 l4, .int .i64 h4, .slice pa4 pn4 pc4]) ?_ rfl ?_
    · rw [results_cell1 rfl]
      go_simp
    · show RfAns w br p o R0 _ _
      rw [HR9.out]
      exact HFIN.out _ HPUT.out.2
  have g125 : (d == 125) = false := by simpa using h125
  by_cases h123 : d = 123
  · subst h123
    have HR9 : Hid (R0 = .error 11) := HES2.out
    clear h60 h62 h125
    go_wp2_with (go_at_call 38; refine (fail_any br p i n o wx (HLK.out wx HWX.out).2.2.2 11).mono ?_; intro e w5 hh; obtain ⟨k4, r4, sa4, sn4, sc4, nt4, l4, h4, pa4, pn4, pc4, he, hg5, HFIN⟩ := HWR.out wx HWX.out _ e w5 (FlAns.ans hh); subst he; clear hh; obtain ⟨a0, a1, a2, a3, a4, a5, a6, z0, z1, z2, z3, z4, z5, z6⟩ := row7 hg5; have HPUT := Lib.hid (put7 hg5 (.int .i64 k4) (.int .i32 r4) (.slice sa4 sn4 sc4) (.bool nt4) (.int .i64 l4) (.int .i64 h4) (.slice pa4 pn4 pc4)); clear hg5)
    refine bodyPost_ret (v := .agg #[.int .i64 k4, .int .i32 r4, .slice sa4 sn4 sc4, .bool nt4, .int .i64 l4, .int .i64 h4, .slice pa4 pn4 pc4]) ?_ rfl ?_
    · rw [results_cell1 rfl]
      go_simp
    · show RfAns w br p o R0 _ _
      rw [HR9.out]
      exact HFIN.out _ HPUT.out.2
  have g123 : (d == 123) = false := by simpa using h123
  by_cases h40 : d = 40
  · subst h40
    have HR9 : Hid (R0 = grpR rec l2 n o) := HES2.out
    clear h60 h62 h125 h123
    go_wp2_with (go_at_call 39; refine (rgroup_any rec br p l2 n o wx HREC.out HNZ.out HEND.out HP5.out (HN.out wx HWX.out)).mono ?_; intro e w5 hh; obtain ⟨k4, r4, sa4, sn4, sc4, nt4, l4, h4, pa4, pn4, pc4, he, hg5, HFIN⟩ := HWR.out wx HWX.out _ e w5 (hh); subst he; clear hh; obtain ⟨a0, a1, a2, a3, a4, a5, a6, z0, z1, z2, z3, z4, z5, z6⟩ := row7 hg5; have HPUT := Lib.hid (put7 hg5 (.int .i64 k4) (.int .i32 r4) (.slice sa4 sn4 sc4) (.bool nt4) (.int .i64 l4) (.int .i64 h4) (.slice pa4 pn4 pc4)); clear hg5)
    refine bodyPost_ret (v := .agg #[.int .i64 k4, .int .i32 r4, .slice sa4 sn4 sc4, .bool nt4, .int .i64 l4, .int .i64 h4, .slice pa4 pn4 pc4]) ?_ rfl ?_
    · rw [results_cell1 rfl]
      go_simp
    · show RfAns w br p o R0 _ _
      rw [HR9.out]
      exact HFIN.out _ HPUT.out.2
  have g40 : (d == 40) = false := by simpa using h40
  have HR9 : Hid (R0 = .ok (Re.rune d, l2, n)) := by show _ = _; rw [HES2.out, if_neg h40, if_neg h60, if_neg h62, if_neg h123, if_neg h125]
  clear h60 h62 h125 h123 h40
  go_wp2_with (go_at_call 37; refine (one_any br p (92 :: d :: l2) n o wx (HN.out wx HWX.out) d 2 2 rfl (by simp)).mono ?_; intro e w5 hh; obtain ⟨k4, r4, sa4, sn4, sc4, nt4, l4, h4, pa4, pn4, pc4, he, hg5, HFIN⟩ := HWR.out wx HWX.out _ e w5 (hh); subst he; clear hh; obtain ⟨a0, a1, a2, a3, a4, a5, a6, z0, z1, z2, z3, z4, z5, z6⟩ := row7 hg5; have HPUT := Lib.hid (put7 hg5 (.int .i64 k4) (.int .i32 r4) (.slice sa4 sn4 sc4) (.bool nt4) (.int .i64 l4) (.int .i64 h4) (.slice pa4 pn4 pc4)); clear hg5)
  refine bodyPost_ret (v := .agg #[.int .i64 k4, .int .i32 r4, .slice sa4 sn4 sc4, .bool nt4, .int .i64 l4, .int .i64 h4, .slice pa4 pn4 pc4]) ?_ rfl ?_
  · rw [results_cell1 rfl]
    go_simp
  · show RfAns w br p o R0 _ _
    rw [HR9.out]
    exact HFIN.out _ HPUT.out.2
end Go.Proofs.Ytkjiobbkbhmijaa.U
