/-
  The document's Size and Count; short.
-/
import Derived.Test.YtkjiobbkbhmijaaRSame
import Derived.Test.YtkjiobbkbhmijaaRCnt
namespace Go.Proofs.Ytkjiobbkbhmijaa.U
open Go.RowKit
set_option linter.unusedVariables false
set_option linter.unusedSimpArgs false
set_option maxRecDepth 100000

theorem szs_take (ps : List Re) (i : Nat) (y : Re) (h : ps[i]? = some y) : szs (ps.take (i + 1)) = szs (ps.take i) + y.sz := by
  have hl : i < ps.length := (List.getElem?_eq_some_iff.1 h).1
  have e : ps[i] = y := by rw [List.getElem?_eq_getElem hl] at h; exact Option.some.inj h
  rw [List.take_succ_eq_append_getElem hl, szs_append, e]
  simp [szs]
theorem cap_step (a s t : Nat) (ht : 1 ≤ t) : min (min (1 + a * t) 401 + min s 401 * t) 401 = min (1 + (a + s) * t) 401 := by
  rw [Nat.add_mul]
  by_cases hs : s ≤ 401
  · rw [Nat.min_eq_left hs]; omega
  · rw [Nat.min_eq_right (by omega : 401 ≤ s)]
    have h1 := Nat.mul_le_mul (show 402 ≤ s by omega) ht
    have h2 := Nat.mul_le_mul_left 401 ht
    omega
def SizeP (n : Nat) : Prop := ∀ (x : Re) (F : Nat → Prop) (v : List Value) (w : World), x.sz ≤ n → x.tame → ReAt F w v x → Calls Try.prog 21 #[.agg v.toArray] w fun e w' => e = .returned (.int .i64 ((min x.sz 401 : Nat) : Int)) ∧ Below w.heap.size w w'
set_option maxHeartbeats 2000000 in
theorem size_step (n : Nat) (ih : ∀ m, m < n → SizeP m) : SizeP n := by
  intro x F v w hn ht hx
  obtain ⟨k, r, sa, sn, sc, nt, lo, hh, pa, pn, pc, rfl⟩ := hx.rev7
  obtain ⟨st, ps, rfl, h1, h2, h3, h4, h5, h6⟩ := ReAt.full hx
  rw [Re.tame] at ht
  obtain ⟨⟨htl, hth⟩, hts⟩ := ht
  show Calls _ _ #[.agg #[.int .i64 k, .int .i32 r, .slice sa sn sc, .bool nt, .int .i64 lo, .int .i64 hh, .slice pa pn pc]] w _
  obtain ⟨w1, hw1⟩ : ∃ w1, w.alloc (.cells #[.int .i64 k, .int .i32 r, .slice sa sn sc, .bool nt, .int .i64 lo, .int .i64 hh, .slice pa pn pc] 26) = w1 := ⟨_, rfl⟩
  have hb1 : Below w.heap.size w w1 := by rw [← hw1]; exact bal _ _
  have hgA : w1.heap[w.heap.size]? = some (.cells #[.int .i64 k, .int .i32 r, .slice sa sn sc, .bool nt, .int .i64 lo, .int .i64 hh, .slice pa pn pc] 26 (0, 0)) := by rw [← hw1]; exact heap_alloc_new w _
  obtain ⟨p0, p1, p2, p3, p4, p5, p6, -⟩ := row7 hgA
  obtain ⟨t, htt⟩ : ∃ t, (if k = 10 then tms lo hh else 1) = t := ⟨_, rfl⟩
  have ht1 : 1 ≤ t := by
    rw [← htt]
    split
    · unfold tms; omega
    · omega
  have HSZ : Hid ((Re.mk k r st nt lo hh ps).sz = 1 + szs ps * t) := by show _ = _; rw [Re.sz, htt]
  have HT1 := Lib.hid ht1
  have HT := Lib.hid htt
  have HX := Lib.hid hx
  have HB1 := Lib.hid hb1
  have HGA := Lib.hid hgA
  have HW1 := Lib.hid hw1
  have H6 := Lib.hid h6
  have H2 := Lib.hid h2
  have HIH := Lib.hid ih
  have HN := Lib.hid hn
  have HTS := Lib.hid hts
  clear hx hb1 hgA hw1 h3 h6 h1 h2 ih hn hts htt ht1
  go_enter Try.func21, Try.ntmps21
  go_upto_region 1 with fail
  rw [HW1.out]
  go_wp2_with fail
  go_loopw [3, 4] (fun v3 v4 wr => ∃ (s : Int) (i : Nat), v3 = .int .i64 s ∧ v4 = .int .i64 (i : Nat) ∧ i ≤ pn ∧ 0 ≤ s ∧ s ≤ 401 ∧ Hid (s = ((min (1 + szs (ps.take i) * t) 401 : Nat) : Int) ∧ Below w1.heap.size w1 wr)) (fun _ v4 _ => pn - (intOf v4).toNat)
  case atStart => exact ⟨1, 0, rfl, rfl, by omega, by omega, by omega, by simp [szs], Below.refl _ _⟩
  case round =>
    obtain ⟨s, i, rfl, rfl, hi, hs0, hs1, HW⟩ := hrel
    have a0 := (HW.out.2.cell (p := ⟨w.heap.size, 0, none⟩) (heap_lt HGA.out)).trans p0
    have a4 := (HW.out.2.cell (p := ⟨w.heap.size, 4, none⟩) (heap_lt HGA.out)).trans p4
    have a5 := (HW.out.2.cell (p := ⟨w.heap.size, 5, none⟩) (heap_lt HGA.out)).trans p5
    have a6 := (HW.out.2.cell (p := ⟨w.heap.size, 6, none⟩) (heap_lt HGA.out)).trans p6
    by_cases hlt : i < pn
    · obtain ⟨y, hy⟩ : ∃ y, ps[i]? = some y := ⟨_, List.getElem?_eq_getElem (by have := H2.out; omega)⟩
      obtain ⟨b, off, rfl, hbl, v8, hv, hcv⟩ := H6.out i y hy
      obtain ⟨k8, r8, sa8, sn8, sc8, nt8, l8, h8, pa8, pn8, pc8, rfl⟩ := hv.rev7
      have hw := HB1.out.trans (HW.out.2.mono HB1.out.size)
      have c0 := (hw.cell (p := ⟨b, off + i * 7, none⟩) hbl).trans (hcv 0 _ rfl)
      have c1 := (hw.cell (p := ⟨b, off + i * 7 + 1, none⟩) hbl).trans (hcv 1 _ rfl)
      have c2 := (hw.cell (p := ⟨b, off + i * 7 + 2, none⟩) hbl).trans (hcv 2 _ rfl)
      have c3 := (hw.cell (p := ⟨b, off + i * 7 + 3, none⟩) hbl).trans (hcv 3 _ rfl)
      have c4 := (hw.cell (p := ⟨b, off + i * 7 + 4, none⟩) hbl).trans (hcv 4 _ rfl)
      have c5 := (hw.cell (p := ⟨b, off + i * 7 + 5, none⟩) hbl).trans (hcv 5 _ rfl)
      have c6 := (hw.cell (p := ⟨b, off + i * 7 + 6, none⟩) hbl).trans (hcv 6 _ rfl)
      obtain ⟨s2, hs2⟩ : ∃ s2 : Int, ((min y.sz 401 : Nat) : Int) = s2 := ⟨_, rfl⟩
      have hs2b : 0 ≤ s2 ∧ s2 ≤ 401 := by omega
      have HCA : Hid (Calls Try.prog 21 #[.agg #[.int .i64 k8, .int .i32 r8, .slice sa8 sn8 sc8, .bool nt8, .int .i64 l8, .int .i64 h8, .slice pa8 pn8 pc8]] wr fun e w' => e = .returned (.int .i64 s2) ∧ Below wr.heap.size wr w') := by
        have := HIH.out y.sz (Nat.lt_of_lt_of_le (sz_part (List.mem_of_getElem? hy)) HN.out) y F _ wr (Nat.le_refl _) (tames_mem HTS.out (List.mem_of_getElem? hy)) (ReAt.frF (Fr.of_below (fun _ => False) hw) (fun _ _ h => h) y hv)
        rw [hs2] at this
        exact this
      have HST := Lib.hid (szs_take ps i y hy)
      have HS2 := Lib.hid hs2
      have HWQ := Lib.hid hw
      have hg : (i : Int) < (pn : Int) := by omega
      have HK : Hid (∀ w8 : World, Below wr.heap.size wr w8 → w8.cell? ⟨w.heap.size, 0, none⟩ = some (.int .i64 k) ∧ w8.cell? ⟨w.heap.size, 4, none⟩ = some (.int .i64 lo) ∧ w8.cell? ⟨w.heap.size, 5, none⟩ = some (.int .i64 hh)) := by
        intro w8 h8
        have h1 := HW.out.2.size
        have h2 := heap_lt HGA.out
        exact ⟨(h8.cell (p := ⟨w.heap.size, 0, none⟩) (Nat.lt_of_lt_of_le h2 h1)).trans a0, (h8.cell (p := ⟨w.heap.size, 4, none⟩) (Nat.lt_of_lt_of_le h2 h1)).trans a4, (h8.cell (p := ⟨w.heap.size, 5, none⟩) (Nat.lt_of_lt_of_le h2 h1)).trans a5⟩
      obtain ⟨hs20, hs21⟩ := hs2b
      clear hw hv hcv hy hs2
      by_cases hk : k = 10
      · subst hk
        obtain ⟨m, hm⟩ : ∃ m, max (max 1 lo) hh = m := ⟨_, rfl⟩
        have hmb : 1 ≤ m ∧ m ≤ 1000000 := by omega
        have HMT : Hid (((t : Nat) : Int) = m) := by
          have h := HT.out
          rw [if_pos rfl] at h
          show _ = _
          rw [← h]; unfold tms; omega
        obtain ⟨pm, hpm⟩ : ∃ pm, s2 * m = pm := ⟨_, rfl⟩
        have hpmb : 0 ≤ pm ∧ pm ≤ 401000000 := by
          rw [← hpm]
          constructor
          · exact Int.mul_nonneg hs20 (by omega)
          · exact Int.le_trans (Int.mul_le_mul hs21 hmb.2 (by omega) (by omega)) (by omega)
        have HFIN : Hid (min (s + pm) 401 = ((min (1 + szs (ps.take (i + 1)) * t) 401 : Nat) : Int)) := by
          have h1 := cap_step (szs (ps.take i)) y.sz t HT1.out
          have h2 := HW.out.1
          have h3 := HS2.out
          have h4 := HST.out
          have h5 := HMT.out
          show _ = _
          rw [h4, ← h1, ← hpm, h2, ← h3, ← h5, ← Int.natCast_mul]
          omega
        obtain ⟨hp0, hp1⟩ := hpmb
        have hcase : (m = 1 ∧ lo ≤ 1 ∧ hh ≤ 1) ∨ (m = lo ∧ 1 < lo ∧ hh ≤ lo) ∨ (m = hh ∧ 1 < hh ∧ lo < hh) := by omega
        clear hm hmb HMT
        rcases hcase with ⟨hml, c1, c2⟩ | ⟨hml, c1, c2⟩ | ⟨hml, c1, c2⟩ <;> rw [hml] at hpm <;> clear hml
        · rw [Int.mul_one] at hpm
          subst hpm
          go_wp2_with (go_at_call 21; refine HCA.out.mono ?_; rintro e w8 ⟨rfl, hb8⟩; obtain ⟨x0, x4, x5⟩ := HK.out w8 hb8; have HB8 := Lib.hid hb8; clear hb8)
          go_roundw
          case rel => exact ⟨min (s + s2) 401, i + 1, by split <;> (congr 1; omega), by go_num, by omega, by omega, by omega, HFIN.out, HW.out.2.trans (HB8.out.mono HW.out.2.size)⟩
          case measure => simp [intOf]; omega
        · go_wp2_with (go_at_call 21; refine HCA.out.mono ?_; rintro e w8 ⟨rfl, hb8⟩; obtain ⟨x0, x4, x5⟩ := HK.out w8 hb8; have HB8 := Lib.hid hb8; clear hb8)
          go_roundw
          case rel => exact ⟨min (s + pm) 401, i + 1, by split <;> (congr 1; omega), by go_num, by omega, by omega, by omega, HFIN.out, HW.out.2.trans (HB8.out.mono HW.out.2.size)⟩
          case measure => simp [intOf]; omega
        · go_wp2_with (go_at_call 21; refine HCA.out.mono ?_; rintro e w8 ⟨rfl, hb8⟩; obtain ⟨x0, x4, x5⟩ := HK.out w8 hb8; have HB8 := Lib.hid hb8; clear hb8)
          go_roundw
          case rel => exact ⟨min (s + pm) 401, i + 1, by split <;> (congr 1; omega), by go_num, by omega, by omega, by omega, HFIN.out, HW.out.2.trans (HB8.out.mono HW.out.2.size)⟩
          case measure => simp [intOf]; omega
      · have g10 : (k == 10) = false := by simpa using hk
        have HFIN : Hid (min (s + s2) 401 = ((min (1 + szs (ps.take (i + 1)) * t) 401 : Nat) : Int)) := by
          have h1 := cap_step (szs (ps.take i)) y.sz t HT1.out
          have h2 := HW.out.1
          have h3 := HS2.out
          have h4 := HST.out
          have h5 := HT.out
          rw [if_neg hk] at h5
          show _ = _
          rw [h4, ← h1, h2, ← h3, ← h5]
          omega
        go_wp2_with (go_at_call 21; refine HCA.out.mono ?_; rintro e w8 ⟨rfl, hb8⟩; obtain ⟨x0, x4, x5⟩ := HK.out w8 hb8; have HB8 := Lib.hid hb8; clear hb8)
        go_roundw
        case rel => exact ⟨min (s + s2) 401, i + 1, by split <;> (congr 1; omega), by go_num, by omega, by omega, by omega, HFIN.out, HW.out.2.trans (HB8.out.mono HW.out.2.size)⟩
        case measure => simp [intOf]; omega
    · obtain rfl : i = pn := by omega
      have HFIN : Hid (s = ((min (Re.mk k r st nt lo hh ps).sz 401 : Nat) : Int)) := by
        have h := HW.out.1
        rw [List.take_of_length_le (by have := H2.out; omega), ← HSZ.out] at h
        exact h
      go_wp2
      go_ret
      exact ⟨ret_int HFIN.out, HB1.out.trans (HW.out.2.mono HB1.out.size)⟩
theorem size_all : ∀ n, SizeP n := fun n => Nat.strongRecOn n size_step
theorem size_any (x : Re) (F : Nat → Prop) (v : List Value) (w : World) (ht : x.tame) (hx : ReAt F w v x) :
    Calls Try.prog 21 #[.agg v.toArray] w fun e w' => e = .returned (.int .i64 ((min x.sz 401 : Nat) : Int)) ∧ Below w.heap.size w w' := size_all x.sz x F v w (Nat.le_refl _) ht hx
theorem short_any (x : Re) (F : Nat → Prop) (v : List Value) (w : World) (ht : x.tame) (hx : ReAt F w v x) :
    Calls Try.prog 17 #[.agg v.toArray] w fun e w' => e = .returned (.bool (decide (x.sz ≤ 100))) ∧ Below w.heap.size w w' := by
  obtain ⟨k, r, sa, sn, sc, nt, lo, hi, pa, pn, pc, rfl⟩ := hx.rev7
  obtain ⟨w1, hw1⟩ : ∃ w1, w.alloc (.cells #[.int .i64 k, .int .i32 r, .slice sa sn sc, .bool nt, .int .i64 lo, .int .i64 hi, .slice pa pn pc] 26) = w1 := ⟨_, rfl⟩
  have hb1 : Below w.heap.size w w1 := by rw [← hw1]; exact bal _ _
  have hgA : w1.heap[w.heap.size]? = some (.cells #[.int .i64 k, .int .i32 r, .slice sa sn sc, .bool nt, .int .i64 lo, .int .i64 hi, .slice pa pn pc] 26 (0, 0)) := by rw [← hw1]; exact heap_alloc_new w _
  obtain ⟨p0, p1, p2, p3, p4, p5, p6, -⟩ := row7 hgA
  have h := size_any x F _ w1 ht (ReAt.frF (Fr.of_below (fun _ => False) hb1) (fun _ _ h => h) x hx)
  have HB1 := Lib.hid hb1
  have HW1 := Lib.hid hw1
  obtain ⟨s, hs⟩ : ∃ s : Int, ((min x.sz 401 : Nat) : Int) = s := ⟨_, rfl⟩
  rw [hs] at h
  have HC : Hid (Calls Try.prog 21 #[.agg #[.int .i64 k, .int .i32 r, .slice sa sn sc, .bool nt, .int .i64 lo, .int .i64 hi, .slice pa pn pc]] w1 fun e w' => e = .returned (.int .i64 s) ∧ Below w1.heap.size w1 w') := h
  have HD : Hid (decide (s ≤ 100) = decide (x.sz ≤ 100)) := by
    show _ = _
    rw [← hs]
    congr 1
    apply propext
    omega
  clear h hs ht hx hb1 hw1 hgA
  show Calls _ _ #[.agg #[.int .i64 k, .int .i32 r, .slice sa sn sc, .bool nt, .int .i64 lo, .int .i64 hi, .slice pa pn pc]] w _
  go_enter Try.func17, Try.ntmps17
  go_upto_region 1 with fail
  rw [HW1.out]
  go_wp2_with (go_at_call 21; refine HC.out.mono ?_; rintro e w8 ⟨rfl, hb8⟩; have HB8 := Lib.hid hb8; clear hb8)
  go_ret
  exact ⟨ret_bool HD.out, HB1.out.trans (HB8.out.mono HB1.out.size)⟩
end Go.Proofs.Ytkjiobbkbhmijaa.U
