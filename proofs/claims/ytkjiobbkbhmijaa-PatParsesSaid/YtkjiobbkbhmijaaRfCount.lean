/-
  The document's Count.
-/
import Derived.Test.YtkjiobbkbhmijaaRSize
namespace Go.Proofs.Ytkjiobbkbhmijaa.U
open Go.RowKit
set_option linter.unusedVariables false
set_option linter.unusedSimpArgs false
set_option maxRecDepth 100000

-- how many groups
mutual
theorem Re.cnt_le : ∀ x : Re, x.cnt ≤ x.sz
  | .mk k r st nt lo hi ps => by
    rw [Re.cnt, Re.sz]
    have h1 := cnts_le ps
    have h2 : 1 ≤ (if k = 10 then tms lo hi else 1) := by
      split
      · unfold tms; omega
      · omega
    have h3 := Nat.mul_le_mul_left (szs ps) h2
    split <;> omega
theorem cnts_le : ∀ xs : List Re, cnts xs ≤ szs xs
  | [] => Nat.le_refl _
  | x :: xs => by rw [cnts, szs]; have h1 := Re.cnt_le x; have h2 := cnts_le xs; omega
end
theorem cnts_take (ps : List Re) (i : Nat) (y : Re) (h : ps[i]? = some y) : cnts (ps.take (i + 1)) = cnts (ps.take i) + y.cnt := by
  have hl : i < ps.length := (List.getElem?_eq_some_iff.1 h).1
  have e : ps[i] = y := by rw [List.getElem?_eq_getElem hl] at h; exact Option.some.inj h
  rw [List.take_succ_eq_append_getElem hl, cnts_append, e]
  simp [cnts]
theorem cnts_take_le (ps : List Re) (i : Nat) : cnts (ps.take i) ≤ cnts ps := by
  have := congrArg cnts (List.take_append_drop i ps)
  rw [cnts_append] at this
  omega
def CntP (n : Nat) : Prop := ∀ (x : Re) (F : Nat → Prop) (v : List Value) (w : World), x.sz ≤ n → n ≤ 400 → ReAt F w v x → Calls Try.prog 12 #[.agg v.toArray] w fun e w' => e = .returned (.int .i64 ((x.cnt : Nat) : Int)) ∧ Below w.heap.size w w'
set_option maxHeartbeats 2000000 in
theorem cnt_step (n : Nat) (ih : ∀ m, m < n → CntP m) : CntP n := by
  intro x F v w hn hn4 hx
  have hxb := Re.cnt_le x
  obtain ⟨k, r, sa, sn, sc, nt, lo, hh, pa, pn, pc, rfl⟩ := hx.rev7
  obtain ⟨st, ps, rfl, h1, h2, h3, h4, h5, h6⟩ := ReAt.full hx
  show Calls _ _ #[.agg #[.int .i64 k, .int .i32 r, .slice sa sn sc, .bool nt, .int .i64 lo, .int .i64 hh, .slice pa pn pc]] w _
  obtain ⟨w1, hw1⟩ : ∃ w1, w.alloc (.cells #[.int .i64 k, .int .i32 r, .slice sa sn sc, .bool nt, .int .i64 lo, .int .i64 hh, .slice pa pn pc] 26) = w1 := ⟨_, rfl⟩
  have hb1 : Below w.heap.size w w1 := by rw [← hw1]; exact bal _ _
  have hgA : w1.heap[w.heap.size]? = some (.cells #[.int .i64 k, .int .i32 r, .slice sa sn sc, .bool nt, .int .i64 lo, .int .i64 hh, .slice pa pn pc] 26 (0, 0)) := by rw [← hw1]; exact heap_alloc_new w _
  obtain ⟨p0, p1, p2, p3, p4, p5, p6, -⟩ := row7 hgA
  have h7 : (Re.mk k r st nt lo hh ps).cnt = (if k = 11 then 1 else 0) + cnts ps := by rw [Re.cnt]
  have HCB : Hid (cnts ps ≤ 400) := by show _ ≤ _; omega
  have H7 := Lib.hid h7
  have HB1 := Lib.hid hb1
  have HGA := Lib.hid hgA
  have HW1 := Lib.hid hw1
  have H6 := Lib.hid h6
  have H2 := Lib.hid h2
  have HIH := Lib.hid ih
  have HN := Lib.hid hn
  clear hx hb1 hgA hw1 h3 h6 h1 h2 ih hn hxb h7
  by_cases hk : k = 11
  · have HCN : Hid ((((Re.mk k r st nt lo hh ps).cnt : Nat) : Int) = 1 + ((cnts ps : Nat) : Int)) := by have := H7.out; rw [if_pos hk] at this; show _ = _; omega
    have gk : (k == 11) = true := by simpa using hk
    clear hk
    go_enter Try.func12, Try.ntmps12
    go_upto_region 1 with fail
    rw [HW1.out]
    go_wp2_with fail
    go_loopw [3, 4] (fun v3 v4 wr => ∃ (s : Int) (i : Nat), v3 = .int .i64 s ∧ v4 = .int .i64 (i : Nat) ∧ i ≤ pn ∧ 0 ≤ s ∧ s ≤ 401 ∧ Hid (s = 1 + ((cnts (ps.take i) : Nat) : Int) ∧ Below w1.heap.size w1 wr)) (fun _ v4 _ => pn - (intOf v4).toNat)
    case atStart => exact ⟨1, 0, rfl, rfl, by omega, by omega, by omega, by simp [cnts], Below.refl _ _⟩
    case round =>
      obtain ⟨s, i, rfl, rfl, hi, hs0, hs1, HW⟩ := hrel
      have a6 := (HW.out.2.cell (p := ⟨w.heap.size, 6, none⟩) (heap_lt HGA.out)).trans p6
      by_cases hlt : i < pn
      · obtain ⟨y, hy⟩ : ∃ y, ps[i]? = some y := ⟨_, List.getElem?_eq_getElem (by have := H2.out; omega)⟩
        obtain ⟨b, off, rfl, hbl, v8, hv, hcv⟩ := H6.out i y hy
        obtain ⟨k8, r8, sa8, sn8, sc8, nt8, l8, h8, pa8, pn8, pc8, rfl⟩ := hv.rev7
        have hw := HB1.out.trans (HW.out.2.mono HB1.out.size)
        have c0 := (hw.cell (p := ⟨b, off + i * 7, none⟩) hbl).trans (hcv 0 _ rfl)
        have c1 := (hw.cell (p := ⟨b, off + i * 7 + 1, none⟩) hbl).trans (hcv 1 _ rfl)
        have c2 := (hw.cell (p := ⟨b, off + i * 7 + 2, none⟩) hbl).trans (hcv 2 _ rfl)
        have c3 := (hw.cell (p := ⟨b, off + i * 7 + 3, none⟩) hbl).trans (hcv 3 _ rfl)
        have c4 := (hw.cell (p := ⟨b, off + i * 7 + 4, none⟩) hbl).trans (hcv 4 _ rfl)
        have c5 := (hw.cell (p := ⟨b, off + i * 7 + 5, none⟩) hbl).trans (hcv 5 _ rfl)
        have c6 := (hw.cell (p := ⟨b, off + i * 7 + 6, none⟩) hbl).trans (hcv 6 _ rfl)
        obtain ⟨s2, hs2⟩ : ∃ s2 : Int, ((y.cnt : Nat) : Int) = s2 := ⟨_, rfl⟩
        have hst := cnts_take ps i y hy
        have hle := cnts_take_le ps (i + 1)
        have hs2b : 0 ≤ s2 ∧ s + s2 ≤ 401 := by have := HCB.out; have := HW.out.1; omega
        have HCA : Hid (Calls Try.prog 12 #[.agg #[.int .i64 k8, .int .i32 r8, .slice sa8 sn8 sc8, .bool nt8, .int .i64 l8, .int .i64 h8, .slice pa8 pn8 pc8]] wr fun e w' => e = .returned (.int .i64 s2) ∧ Below wr.heap.size wr w') := by
          have := HIH.out y.sz (Nat.lt_of_lt_of_le (sz_part (List.mem_of_getElem? hy)) HN.out) y F _ wr (Nat.le_refl _) (by have := Nat.lt_of_lt_of_le (sz_part (k := k) (r := r) (st := st) (nt := nt) (lo := lo) (hi := hh) (List.mem_of_getElem? hy)) HN.out; omega) (ReAt.frF (Fr.of_below (fun _ => False) hw) (fun _ _ h => h) y hv)
          rw [hs2] at this
          exact this
        have HST : Hid (s + s2 = 1 + ((cnts (ps.take (i + 1)) : Nat) : Int)) := by have := HW.out.1; show _ = _; omega
        have hg : (i : Int) < (pn : Int) := by omega
        obtain ⟨hs20, hs21⟩ := hs2b
        clear hw hv hcv hy hs2 hst hle
        go_wp2_with (go_at_call 12; refine HCA.out.mono ?_; rintro e w8 ⟨rfl, hb8⟩; have HB8 := Lib.hid hb8; clear hb8)
        go_roundw
        case rel => exact ⟨s + s2, i + 1, rfl, by go_num, by omega, by omega, by omega, HST.out, HW.out.2.trans (HB8.out.mono HW.out.2.size)⟩
        case measure => simp [intOf]; omega
      · obtain rfl : i = pn := by omega
        have HFIN : Hid (s = (((Re.mk k r st nt lo hh ps).cnt : Nat) : Int)) := by
          have h := HW.out.1
          rw [List.take_of_length_le (by have := H2.out; omega)] at h
          have := HCN.out
          show _ = _
          omega
        go_wp2
        go_ret
        exact ⟨ret_int HFIN.out, HB1.out.trans (HW.out.2.mono HB1.out.size)⟩
  · have HCN : Hid ((((Re.mk k r st nt lo hh ps).cnt : Nat) : Int) = 0 + ((cnts ps : Nat) : Int)) := by have := H7.out; rw [if_neg hk] at this; show _ = _; omega
    have gk : (k == 11) = false := by simpa using hk
    clear hk
    go_enter Try.func12, Try.ntmps12
    go_upto_region 1 with fail
    rw [HW1.out]
    go_wp2_with fail
    go_loopw [3, 4] (fun v3 v4 wr => ∃ (s : Int) (i : Nat), v3 = .int .i64 s ∧ v4 = .int .i64 (i : Nat) ∧ i ≤ pn ∧ 0 ≤ s ∧ s ≤ 401 ∧ Hid (s = 0 + ((cnts (ps.take i) : Nat) : Int) ∧ Below w1.heap.size w1 wr)) (fun _ v4 _ => pn - (intOf v4).toNat)
    case atStart => exact ⟨0, 0, rfl, rfl, by omega, by omega, by omega, by simp [cnts], Below.refl _ _⟩
    case round =>
      obtain ⟨s, i, rfl, rfl, hi, hs0, hs1, HW⟩ := hrel
      have a6 := (HW.out.2.cell (p := ⟨w.heap.size, 6, none⟩) (heap_lt HGA.out)).trans p6
      by_cases hlt : i < pn
      · obtain ⟨y, hy⟩ : ∃ y, ps[i]? = some y := ⟨_, List.getElem?_eq_getElem (by have := H2.out; omega)⟩
        obtain ⟨b, off, rfl, hbl, v8, hv, hcv⟩ := H6.out i y hy
        obtain ⟨k8, r8, sa8, sn8, sc8, nt8, l8, h8, pa8, pn8, pc8, rfl⟩ := hv.rev7
        have hw := HB1.out.trans (HW.out.2.mono HB1.out.size)
        have c0 := (hw.cell (p := ⟨b, off + i * 7, none⟩) hbl).trans (hcv 0 _ rfl)
        have c1 := (hw.cell (p := ⟨b, off + i * 7 + 1, none⟩) hbl).trans (hcv 1 _ rfl)
        have c2 := (hw.cell (p := ⟨b, off + i * 7 + 2, none⟩) hbl).trans (hcv 2 _ rfl)
        have c3 := (hw.cell (p := ⟨b, off + i * 7 + 3, none⟩) hbl).trans (hcv 3 _ rfl)
        have c4 := (hw.cell (p := ⟨b, off + i * 7 + 4, none⟩) hbl).trans (hcv 4 _ rfl)
        have c5 := (hw.cell (p := ⟨b, off + i * 7 + 5, none⟩) hbl).trans (hcv 5 _ rfl)
        have c6 := (hw.cell (p := ⟨b, off + i * 7 + 6, none⟩) hbl).trans (hcv 6 _ rfl)
        obtain ⟨s2, hs2⟩ : ∃ s2 : Int, ((y.cnt : Nat) : Int) = s2 := ⟨_, rfl⟩
        have hst := cnts_take ps i y hy
        have hle := cnts_take_le ps (i + 1)
        have hs2b : 0 ≤ s2 ∧ s + s2 ≤ 401 := by have := HCB.out; have := HW.out.1; omega
        have HCA : Hid (Calls Try.prog 12 #[.agg #[.int .i64 k8, .int .i32 r8, .slice sa8 sn8 sc8, .bool nt8, .int .i64 l8, .int .i64 h8, .slice pa8 pn8 pc8]] wr fun e w' => e = .returned (.int .i64 s2) ∧ Below wr.heap.size wr w') := by
          have := HIH.out y.sz (Nat.lt_of_lt_of_le (sz_part (List.mem_of_getElem? hy)) HN.out) y F _ wr (Nat.le_refl _) (by have := Nat.lt_of_lt_of_le (sz_part (k := k) (r := r) (st := st) (nt := nt) (lo := lo) (hi := hh) (List.mem_of_getElem? hy)) HN.out; omega) (ReAt.frF (Fr.of_below (fun _ => False) hw) (fun _ _ h => h) y hv)
          rw [hs2] at this
          exact this
        have HST : Hid (s + s2 = 0 + ((cnts (ps.take (i + 1)) : Nat) : Int)) := by have := HW.out.1; show _ = _; omega
        have hg : (i : Int) < (pn : Int) := by omega
        obtain ⟨hs20, hs21⟩ := hs2b
        clear hw hv hcv hy hs2 hst hle
        go_wp2_with (go_at_call 12; refine HCA.out.mono ?_; rintro e w8 ⟨rfl, hb8⟩; have HB8 := Lib.hid hb8; clear hb8)
        go_roundw
        case rel => exact ⟨s + s2, i + 1, rfl, by go_num, by omega, by omega, by omega, HST.out, HW.out.2.trans (HB8.out.mono HW.out.2.size)⟩
        case measure => simp [intOf]; omega
      · obtain rfl : i = pn := by omega
        have HFIN : Hid (s = (((Re.mk k r st nt lo hh ps).cnt : Nat) : Int)) := by
          have h := HW.out.1
          rw [List.take_of_length_le (by have := H2.out; omega)] at h
          have := HCN.out
          show _ = _
          omega
        go_wp2
        go_ret
        exact ⟨ret_int HFIN.out, HB1.out.trans (HW.out.2.mono HB1.out.size)⟩
theorem cnt_all : ∀ n, CntP n := fun n => Nat.strongRecOn n cnt_step
theorem count_any (x : Re) (F : Nat → Prop) (v : List Value) (w : World) (hs : x.sz ≤ 400) (hx : ReAt F w v x) :
    Calls Try.prog 12 #[.agg v.toArray] w fun e w' => e = .returned (.int .i64 ((x.cnt : Nat) : Int)) ∧ Below w.heap.size w w' := cnt_all x.sz x F v w (Nat.le_refl _) hs hx
end Go.Proofs.Ytkjiobbkbhmijaa.U
