/-
  Contracts of the document's own answer of layer 1: begins, Next, Decode, Encode.
-/
import Derived.Test.YtcjngpgicegacaaURefB
import Derived.Test.YtcjngpgicegacaaUAwake
namespace Go.Proofs.Ytcjngpgicegacaa.U
open Go.RowKit
set_option linter.unusedVariables false
set_option linter.unusedSimpArgs false

def bhit (f : Nat) (b : List Int) (x : Int) : Bool := ((wholeV (b ++ [x])).2.2 && decide ((wholeV (b ++ [x])).2.1 = b.length + 1)) || (decide (b.length + 1 < 4) && beginsV f (b ++ [x]))
theorem begins_any_eq {f : Nat} {b : List Int} (h : ¬ 4 ≤ b.length) : beginsV (f + 1) b = beginsS.any (bhit f b) := by
  simp only [beginsV]; rw [if_neg h]; rfl
theorem any_true {f : Nat} {b : List Int} {k : Nat} (hk : k < 6) (h : bhit f b (beginsS.getD k 0) = true) : beginsS.any (bhit f b) = true := by
  rw [List.any_eq_true]
  exact ⟨_, getD_mem (by simpa [beginsS] using hk), h⟩
theorem any_false {f : Nat} {b : List Int} (h : ∀ j, j < 6 → bhit f b (beginsS.getD j 0) = false) : beginsS.any (bhit f b) = false := by
  rw [List.any_eq_false]
  intro x hx
  obtain ⟨j, hj, rfl⟩ := List.mem_iff_getElem.1 hx
  have hj6 : j < 6 := by simpa [beginsS] using hj
  have := h j hj6
  rw [List.getD_eq_getElem?_getD, List.getElem?_eq_getElem hj] at this
  simpa using this

theorem begins_long (a : Option Addr) (len cap : Nat) (w : World) (h4 : 4 ≤ len) (hm : len ≤ 9223372036854775807) :
    Calls Try.prog 30 #[.slice a len cap] w fun e w' => e = .returned (.bool false) ∧ Below w.heap.size w w' := by
  have h4' : (4 : Int) ≤ len := by omega
  go_enter Try.func30, Try.ntmps30
  go_wp2_with fail
  go_ret
  exact ⟨rfl, Below.refl _ _⟩

set_option maxHeartbeats 2000000 in
theorem begins_step (f : Nat) (ih : Hid (∀ (a : Option Addr) (len cap : Nat) (xs : List Int) (B : Bool) (w : World), Rd .u8 w a len cap xs → 4 ≤ len + f → Hid (beginsV f xs = B) →
      Calls Try.prog 30 #[.slice a len cap] w fun e w' => e = .returned (.bool B) ∧ Below w.heap.size w w'))
    (a : Option Addr) (len cap : Nat) (xs : List Int) (B : Bool) (w : World) (hr : Rd .u8 w a len cap xs) (h4 : len < 4) (hf : 4 ≤ len + (f + 1)) (HB : Hid (beginsS.any (bhit f xs) = B)) :
    Calls Try.prog 30 #[.slice a len cap] w fun e w' => e = .returned (.bool B) ∧ Below w.heap.size w w' := by
  obtain ⟨i0, hi, hz0, hz1, hz2⟩ := info_parts infoB
  have hl := Lib.hid hr.1
  have HW := Lib.hid hr.2.2.2.1
  have HR := Lib.hid hr; clear hr
  have hnew : Hid (∀ (W : World) (c : Obj), c = .cells #[] 5 → (W.alloc c).ownsRow W.heap.size 5 1 (.slice (some ⟨W.heap.size, 0, none⟩) 0 0) 0 []) := by
    intro W c hc; subst hc
    exact World.ownsRow_made W #[] 0 (Nat.le_refl _) (by unfold maxLen; omega) rfl
  go_enter Try.func30, Try.ntmps30
  go_wp2_with (at_builtin; go_must (refine wpList_appRd rfl (.tmp 13) (.tmp 14) 22 rfl w.heap.size 5 i0 (.int .u8 0) 1 Try.underlying22 hi hz0 hz1 hz2 rfl _ _ _ rfl (hnew.out w _ rfl) .u8 _ _ _ xs rfl (HR.out.alloc _) ?d1 ?d2 ?d3 ?_))
  case d1 => unfold maxLen; omega
  case d2 => omega
  case d3 => simp
  intro v1 w1 ho1 hb1
  obtain ⟨a1, c1, rfl⟩ := own_slice ho1
  have R1 := Lib.hid (Rd.own ho1 HW.out)
  have B1 := Lib.hid (((Below.refl _ w).alloc (Nat.le_refl _) (.cells #[] 5)).trans hb1)
  have s1 := B1.out.size
  clear ho1 hb1
  go_wp2_with fail
  go_loopw [5] (fun c wr => w1 = wr) (fun _ _ => 0)
  case atStart => exact rfl
  case round =>
    subst hrel
    have hS : Hid (∀ j, j < 6 → (w1.alloc (.cells #[.int .u8 128, .int .u8 143, .int .u8 144, .int .u8 159, .int .u8 160, .int .u8 191] 5)).cell? ⟨w1.heap.size, 0 + j, none⟩ = some (.int .u8 (beginsS.getD j 0))) :=
      ((Rd_new .u8 w1 beginsS _ 5 6 rfl rfl (by unfold maxLen; omega) (by decide)).2.2.2.2.2 (by omega)).elim fun b h => h.elim fun o h => fun j hj => by
        obtain ⟨h1, h2⟩ := h
        simp only [Option.some.injEq, Addr.mk.injEq, and_true] at h1
        obtain ⟨rfl, rfl⟩ := h1
        exact h2 j hj
    obtain ⟨w2, hw2⟩ : ∃ w2, w2 = w1.alloc (.cells #[.int .u8 128, .int .u8 143, .int .u8 144, .int .u8 159, .int .u8 160, .int .u8 191] 5) := ⟨_, rfl⟩
    rw [← hw2] at hS
    have B2 : Hid (Below w.heap.size w w2) := by rw [hw2]; exact B1.out.alloc s1 _
    have g2 : w1.heap.size < w2.heap.size := by rw [hw2]; simp
    have R2 : Hid (Rd .u8 w2 a1 len c1 xs) := by rw [hw2]; exact R1.out.alloc _
    have HW2 := Lib.hid hw2; clear hw2
    go_wp2_with fail
    rw [← HW2.out]
    go_loopw [21] (fun i wr => ∃ k : Nat, k ≤ 6 ∧ i = .int .i64 k ∧ Hid (∀ j, j < k → bhit f xs (beginsS.getD j 0) = false) ∧ Below w2.heap.size w2 wr) (fun i _ => 6 - (intOf i).toNat)
    case atStart => exact ⟨0, by omega, rfl, fun j hj => by omega, Below.refl _ _⟩
    case round =>
      obtain ⟨k, hk, rfl, HK, hbl⟩ := hrel
      by_cases hk6 : k = 6
      · subst hk6
        have hB := any_false HK.out
        rw [HB.out] at hB
        subst hB
        go_wp2
        go_ret
        exact ⟨rfl, B2.out.trans (hbl.mono (B' := w.heap.size) (by omega))⟩
      · have hk' : k < 6 := by omega
        have hcx : _ := (hbl.cell (p := ⟨w1.heap.size, 0 + k, none⟩) g2).trans (hS.out k hk')
        rw [Nat.zero_add] at hcx
        obtain ⟨x, hx⟩ : ∃ x, beginsS.getD k 0 = x := ⟨_, rfl⟩
        have hxb : 0 ≤ x ∧ x ≤ 255 := by rw [← hx]; exact beginsS_bytes _ (getD_mem (by simpa [beginsS] using hk'))
        rw [hx] at hcx
        have HX := Lib.hid hx; clear hx
        have hsr := hbl.size
        go_wp2_with (at_builtin; go_must (refine wpList_appRd rfl (.tmp 25) (.tmp 26) 22 rfl wr.heap.size 5 i0 (.int .u8 0) 1 Try.underlying22 hi hz0 hz1 hz2 rfl _ _ _ rfl (hnew.out wr _ rfl) .u8 _ _ _ xs rfl ((R2.out.below hbl).alloc _) ?e1 ?e2 ?e3 ?_))
        case e1 => unfold maxLen; omega
        case e2 => omega
        case e3 => simp
        intro v3 w3 ho3 hb3
        have HO3 := Lib.hid ho3; clear ho3
        have B3 := Lib.hid (((Below.refl _ wr).alloc (Nat.le_refl _) (.cells #[] 5)).trans hb3)
        have s3 := B3.out.size
        clear hb3
        go_wp2_with (at_builtin; go_must (refine wpList_appNew rfl (.tmp 27) (.tmp 29) 22 rfl wr.heap.size 5 i0 (.int .u8 0) 1 Try.underlying22 hi hz0 hz1 hz2 rfl _ _ _ rfl HO3.out _ _ 1 rfl rfl ?f1 ?f2 ?f3 ?f4 ?_))
        case f1 => simp [Value.oneCell']
        case f2 => unfold maxLen; omega
        case f3 => omega
        case f4 => omega
        intro v4 w4 ho4 hb4
        have ho4' : w4.ownsRow wr.heap.size 5 1 v4 (len + 1) ((xs ++ [x]).map (Value.int .u8)) := by simpa using ho4
        obtain ⟨a4, c4, rfl⟩ := own_slice ho4'
        have R4 := Lib.hid (Rd.own ho4' (fun y hy => by
          rcases List.mem_append.1 hy with hy | hy
          · exact HW.out y hy
          · simp only [List.mem_singleton] at hy; subst hy; exact byte_wf hxb))
        have B4 := Lib.hid ((hbl.trans (B3.out.mono (B' := w2.heap.size) hsr)).trans (hb4.mono (B' := w2.heap.size) hsr))
        have s4 := B4.out.size
        clear ho4 ho4' hb4 HO3
        obtain ⟨⟨R, N, M⟩, hW⟩ : ∃ q, wholeV (xs ++ [x]) = q := ⟨_, rfl⟩
        have HWV := Lib.hid hW; clear hW
        have hbh : Hid (bhit f xs x = ((M && decide (N = (len : Int) + 1)) || (decide (len + 1 < 4) && beginsV f (xs ++ [x])))) := by
          show _ = _
          unfold bhit
          rw [HWV.out, hl.out]
        obtain ⟨w4', hw4⟩ : ∃ w4', w4' = w4 := ⟨_, rfl⟩
        subst hw4
        have hlen1 : ((len : Int) + 1) = ((len + 1 : Nat) : Int) := by simp
        have HLEN := Lib.hid hlen1; clear hlen1
        have hNb : M = true → 1 ≤ N ∧ N ≤ len + 1 := by
          intro hM
          have h := whole_out HWV.out hM
          have := hl.out
          simp at h
          omega
        cases M with
        | true =>
          have hN := hNb rfl
          clear hNb
          by_cases hN1 : N = (len : Int) + 1
          · have hBt : B = true := by
              rw [← HB.out]
              refine any_true (k := k) hk' ?_
              rw [HX.out, hbh.out, hN1]
              simp
            subst hBt
            subst hN1
            have hee : (((len : Int) + 1) == (len : Int) + 1) = true := by simp
            go_wp2_with (go_at_call 26; refine (whole_any a4 (len + 1) c4 (xs ++ [x]) R _ true _ R4.out HWV).mono ?_; rintro e w5 ⟨rfl, hb5⟩)
            go_ret
            exact ⟨rfl, (B2.out.trans (B4.out.mono (B' := w.heap.size) (by omega))).trans (hb5.mono (B' := w.heap.size) (by omega))⟩
          · have hee : (N == (len : Int) + 1) = false := by simpa using hN1
            by_cases hl3 : len = 3
            · have hbf : Hid (bhit f xs x = false) := by
                show _ = _
                rw [hbh.out, hl3]
                rw [decide_eq_false (by rw [← hl3]; exact hN1)]; rfl
              have HK2 : Hid (∀ j, j < k + 1 → bhit f xs (beginsS.getD j 0) = false) := by
                intro j hj
                by_cases hjk : j = k
                · subst hjk; rw [HX.out]; exact hbf.out
                · exact HK.out j (by omega)
              have hl4 : ¬ ((len : Int) + 1 < 4) := by omega
              clear hl3
              go_wp2_with (go_at_call 26; refine (whole_any a4 (len + 1) c4 (xs ++ [x]) R N true _ R4.out HWV).mono ?_; rintro e w5 ⟨rfl, hb5⟩; have B5 := Lib.hid (B4.out.trans (hb5.mono (B' := w2.heap.size) s4)); have R5 := Lib.hid (R4.out.below hb5); clear hb5)
              go_roundw
              case rel => exact ⟨k + 1, by omega, by go_num, HK2, B5.out⟩
              case measure => simp [intOf]; omega
            · have hl3' : len < 3 := by omega
              have hl4 : (len : Int) + 1 < 4 := by omega
              obtain ⟨B', hB'⟩ : ∃ B', beginsV f (xs ++ [x]) = B' := ⟨_, rfl⟩
              have HB' := Lib.hid hB'
              have hbv : Hid (bhit f xs x = B') := by
                show _ = _
                rw [hbh.out, hB']
                rw [decide_eq_false hN1, decide_eq_true (by omega : len + 1 < 4)]; simp
              clear hB'
              cases B' with
              | true =>
                have hBt : B = true := by
                  rw [← HB.out]
                  refine any_true (k := k) hk' ?_
                  rw [HX.out, hbv.out]
                subst hBt
                go_wp2_with (first
                  | (go_at_call 26; refine (whole_any a4 (len + 1) c4 (xs ++ [x]) R N true _ R4.out HWV).mono ?_; rintro e w5 ⟨rfl, hb5⟩; have B5 := Lib.hid (B4.out.trans (hb5.mono (B' := w2.heap.size) s4)); have R5 := Lib.hid (R4.out.below hb5); clear hb5)
                  | (go_at_call 30; refine (ih.out a4 (len + 1) c4 (xs ++ [x]) true _ R5.out (by omega) HB').mono ?_; rintro e w6 ⟨rfl, hb6⟩))
                go_ret
                exact ⟨rfl, (B2.out.trans (B5.out.mono (B' := w.heap.size) (by omega))).trans (hb6.mono (B' := w.heap.size) (by have := B5.out.size; omega))⟩
              | false =>
                have HK2 : Hid (∀ j, j < k + 1 → bhit f xs (beginsS.getD j 0) = false) := by
                  intro j hj
                  by_cases hjk : j = k
                  · subst hjk; rw [HX.out]; exact hbv.out
                  · exact HK.out j (by omega)
                go_wp2_with (first
                  | (go_at_call 26; refine (whole_any a4 (len + 1) c4 (xs ++ [x]) R N true _ R4.out HWV).mono ?_; rintro e w5 ⟨rfl, hb5⟩; have B5 := Lib.hid (B4.out.trans (hb5.mono (B' := w2.heap.size) s4)); have R5 := Lib.hid (R4.out.below hb5); clear hb5)
                  | (go_at_call 30; refine (ih.out a4 (len + 1) c4 (xs ++ [x]) false _ R5.out (by omega) HB').mono ?_; rintro e w6 ⟨rfl, hb6⟩; have B6 := Lib.hid (B5.out.trans (hb6.mono (B' := w2.heap.size) B5.out.size)); clear hb6))
                go_roundw
                case rel => exact ⟨k + 1, by omega, by go_num, HK2, B6.out⟩
                case measure => simp [intOf]; omega
        | false =>
          clear hNb
          by_cases hl3 : len = 3
          · have hbf : Hid (bhit f xs x = false) := by
              show _ = _
              rw [hbh.out, hl3]
              rfl
            have HK2 : Hid (∀ j, j < k + 1 → bhit f xs (beginsS.getD j 0) = false) := by
              intro j hj
              by_cases hjk : j = k
              · subst hjk; rw [HX.out]; exact hbf.out
              · exact HK.out j (by omega)
            have hl4 : ¬ ((len : Int) + 1 < 4) := by omega
            clear hl3
            go_wp2_with (go_at_call 26; refine (whole_any a4 (len + 1) c4 (xs ++ [x]) R N false _ R4.out HWV).mono ?_; rintro e w5 ⟨rfl, hb5⟩; have B5 := Lib.hid (B4.out.trans (hb5.mono (B' := w2.heap.size) s4)); have R5 := Lib.hid (R4.out.below hb5); clear hb5)
            go_roundw
            case rel => exact ⟨k + 1, by omega, by go_num, HK2, B5.out⟩
            case measure => simp [intOf]; omega
          · have hl3' : len < 3 := by omega
            have hl4 : (len : Int) + 1 < 4 := by omega
            obtain ⟨B', hB'⟩ : ∃ B', beginsV f (xs ++ [x]) = B' := ⟨_, rfl⟩
            have HB' := Lib.hid hB'
            have hbv : Hid (bhit f xs x = B') := by
              show _ = _
              rw [hbh.out, hB']
              rw [decide_eq_true (by omega : len + 1 < 4)]; simp
            clear hB'
            cases B' with
            | true =>
              have hBt : B = true := by
                rw [← HB.out]
                refine any_true (k := k) hk' ?_
                rw [HX.out, hbv.out]
              subst hBt
              go_wp2_with (first
                | (go_at_call 26; refine (whole_any a4 (len + 1) c4 (xs ++ [x]) R N false _ R4.out HWV).mono ?_; rintro e w5 ⟨rfl, hb5⟩; have B5 := Lib.hid (B4.out.trans (hb5.mono (B' := w2.heap.size) s4)); have R5 := Lib.hid (R4.out.below hb5); clear hb5)
                | (go_at_call 30; refine (ih.out a4 (len + 1) c4 (xs ++ [x]) true _ R5.out (by omega) HB').mono ?_; rintro e w6 ⟨rfl, hb6⟩))
              go_ret
              exact ⟨rfl, (B2.out.trans (B5.out.mono (B' := w.heap.size) (by omega))).trans (hb6.mono (B' := w.heap.size) (by have := B5.out.size; omega))⟩
            | false =>
              have HK2 : Hid (∀ j, j < k + 1 → bhit f xs (beginsS.getD j 0) = false) := by
                intro j hj
                by_cases hjk : j = k
                · subst hjk; rw [HX.out]; exact hbv.out
                · exact HK.out j (by omega)
              go_wp2_with (first
                | (go_at_call 26; refine (whole_any a4 (len + 1) c4 (xs ++ [x]) R N false _ R4.out HWV).mono ?_; rintro e w5 ⟨rfl, hb5⟩; have B5 := Lib.hid (B4.out.trans (hb5.mono (B' := w2.heap.size) s4)); have R5 := Lib.hid (R4.out.below hb5); clear hb5)
                | (go_at_call 30; refine (ih.out a4 (len + 1) c4 (xs ++ [x]) false _ R5.out (by omega) HB').mono ?_; rintro e w6 ⟨rfl, hb6⟩; have B6 := Lib.hid (B5.out.trans (hb6.mono (B' := w2.heap.size) B5.out.size)); clear hb6))
              go_roundw
              case rel => exact ⟨k + 1, by omega, by go_num, HK2, B6.out⟩
              case measure => simp [intOf]; omega

theorem begins_any (f : Nat) : ∀ (a : Option Addr) (len cap : Nat) (xs : List Int) (B : Bool) (w : World), Rd .u8 w a len cap xs → 4 ≤ len + f → Hid (beginsV f xs = B) →
    Calls Try.prog 30 #[.slice a len cap] w fun e w' => e = .returned (.bool B) ∧ Below w.heap.size w w' := by
  induction f with
  | zero =>
    intro a len cap xs B w hr h4 hB
    have : B = false := by rw [← hB.out]; rfl
    subst this
    exact begins_long a len cap w (by omega) hr.small
  | succ f ih =>
    intro a len cap xs B w hr h4 hB
    by_cases hl : 4 ≤ len
    · have hxl : 4 ≤ xs.length := by rw [hr.1]; exact hl
      have : B = false := by rw [← hB.out]; simp only [beginsV]; rw [if_pos hxl]
      subst this
      exact begins_long a len cap w hl hr.small
    · have hxl : ¬ 4 ≤ xs.length := by rw [hr.1]; exact hl
      have hB' := hB.out
      rw [begins_any_eq hxl] at hB'
      exact begins_step f ih a len cap xs B w hr (by omega) h4 hB'

theorem refNext_any (a : Option Addr) (len cap : Nat) (xs : List Int) (R N : Int) (M : Bool) (w : World) (hr : Rd .u8 w a len cap xs) (HV : Hid (nextV xs = (R, N, M))) :
    Calls Try.prog 21 #[.slice a len cap] w fun e w' => e = .returned (.tuple #[.int .i32 R, .int .i64 N, .bool M]) ∧ Below w.heap.size w w' := by
  have hsm := hr.small
  have hl := Lib.hid hr.1
  have HU : Hid (∀ x ∈ xs, 0 ≤ x ∧ x ≤ 255) := fun x hx => wf_u8_in (hr.2.2.2.1 x hx)
  have HR := Lib.hid hr; clear hr
  obtain ⟨⟨R1, N1, M1⟩, hW⟩ : ∃ q, wholeV xs = q := ⟨_, rfl⟩
  have HWV := Lib.hid hW
  cases M1 with
  | true =>
    have hn := whole_next hW
    rw [HV.out] at hn
    simp only [Prod.mk.injEq] at hn
    obtain ⟨rfl, rfl, rfl⟩ := hn
    clear hW
    go_enter Try.func21, Try.ntmps21
    go_wp2_with (go_at_call 26; refine (whole_any a len cap xs _ _ true _ HR.out HWV).mono ?_; rintro e w1 ⟨rfl, hb1⟩)
    go_ret3
    exact ⟨rfl, hb1⟩
  | false =>
    obtain ⟨rfl, rfl, hn⟩ := whole_not hW
    clear hW
    by_cases h0 : len = 0
    · subst h0
      have hx : xs = [] := List.eq_nil_of_length_eq_zero hl.out
      have hv := HV.out
      rw [hx] at hv
      simp only [nextV, Prod.mk.injEq] at hv
      obtain ⟨rfl, rfl, rfl⟩ := hv
      clear hn hx
      go_enter Try.func21, Try.ntmps21
      go_wp2_with (go_at_call 26; refine (whole_any a 0 cap xs _ _ false _ HR.out HWV).mono ?_; rintro e w1 ⟨rfl, hb1⟩)
      go_ret3
      exact ⟨rfl, hb1⟩
    · have hne0 : ((len : Int) == 0) = false := by simp; omega
      have hxn : xs ≠ [] := by intro h; have := hl.out; rw [h] at this; simp at this; omega
      have hbg := begins_next (f := 4) HU.out hxn (by omega)
      rw [HV.out] at hbg
      simp only at hbg
      have HBG := Lib.hid hbg; clear hbg hxn
      rcases hn with hn | hn
      · rw [HV.out] at hn
        simp only [Prod.mk.injEq] at hn
        obtain ⟨rfl, rfl, rfl⟩ := hn
        go_enter Try.func21, Try.ntmps21
        go_wp2_with (first
          | (go_at_call 26; refine (whole_any a len cap xs _ _ false _ HR.out HWV).mono ?_; rintro e w1 ⟨rfl, hb1⟩; have B1 := Lib.hid hb1; clear hb1)
          | (go_at_call 30; refine (begins_any 4 a len cap xs true _ (HR.out.below B1.out) (by omega) HBG).mono ?_; rintro e w2 ⟨rfl, hb2⟩))
        go_ret3
        exact ⟨rfl, B1.out.trans (hb2.mono (B' := w.heap.size) B1.out.size)⟩
      · rw [HV.out] at hn
        simp only [Prod.mk.injEq] at hn
        obtain ⟨rfl, rfl, rfl⟩ := hn
        go_enter Try.func21, Try.ntmps21
        go_wp2_with (first
          | (go_at_call 26; refine (whole_any a len cap xs _ _ false _ HR.out HWV).mono ?_; rintro e w1 ⟨rfl, hb1⟩; have B1 := Lib.hid hb1; clear hb1)
          | (go_at_call 30; refine (begins_any 4 a len cap xs false _ (HR.out.below B1.out) (by omega) HBG).mono ?_; rintro e w2 ⟨rfl, hb2⟩))
        go_ret3
        exact ⟨rfl, B1.out.trans (hb2.mono (B' := w.heap.size) B1.out.size)⟩

end Go.Proofs.Ytcjngpgicegacaa.U
