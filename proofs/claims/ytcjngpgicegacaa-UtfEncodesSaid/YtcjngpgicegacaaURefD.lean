/-
  Contracts of the document's own answer of layer 1: Decode, Encode; bytes as a string.
-/
import Derived.Test.YtcjngpgicegacaaURefC
namespace Go.Proofs.Ytcjngpgicegacaa.U
open Go.RowKit
set_option linter.unusedVariables false
set_option linter.unusedSimpArgs false

theorem dec_step_t {b : List Int} {R N : Int} (hne : b ≠ []) (h : wholeV b = (R, N, true)) : decV b = R :: decV (b.drop N.toNat) := by
  have ho := whole_out h rfl
  cases b with
  | nil => exact absurd rfl hne
  | cons c cs =>
    rw [← refDec_eq (cs.length + 1) (c :: cs) (by simp)]
    simp only [refDecN, h]
    rw [refDec_eq _ _ (by simp at ho ⊢; omega)]
theorem dec_step_f {b : List Int} {R N : Int} (hne : b ≠ []) (h : wholeV b = (R, N, false)) : decV b = 65533 :: decV (b.drop 1) := by
  cases b with
  | nil => exact absurd rfl hne
  | cons c cs =>
    rw [← refDec_eq (cs.length + 1) (c :: cs) (by simp)]
    simp only [refDecN, h]
    rw [refDec_eq _ _ (by simp)]; rfl

set_option maxHeartbeats 1000000 in
theorem refDecode_any (a : Option Addr) (len cap : Nat) (xs : List Int) (w : World) (hr : Rd .u8 w a len cap xs) (hbig : len ≤ 35184372088830) :
    Calls Try.prog 12 #[.slice a len cap] w fun e w' => ∃ v, e = .returned v ∧
      w'.ownsRow w.heap.size 21 1 v (decV xs).length ((decV xs).map (Value.int .i32)) ∧ Below w.heap.size w w' := by
  obtain ⟨i0, hi, hz0, hz1, hz2⟩ := info_parts infoR
  obtain ⟨RS, hRS⟩ : ∃ RS, decV xs = RS := ⟨_, rfl⟩
  rw [hRS]
  have HRS := Lib.hid hRS; clear hRS
  have HR := Lib.hid hr; clear hr
  go_enter Try.func12, Try.ntmps12
  go_wp2_with fail
  go_loopw [0, 3] (fun b l wr => ∃ a2 n2 c2 rest ls, b = .slice a2 n2 c2 ∧ Rd .u8 w a2 n2 c2 rest ∧ Hid (RS = ls ++ decV rest) ∧ ls.length + n2 ≤ len ∧ Hid (wr.ownsRow w.heap.size 21 1 l ls.length (ls.map (Value.int .i32))) ∧ Below w.heap.size w wr)
    (fun b _ _ => lenOf b)
  case atStart => exact ⟨a, len, cap, xs, [], rfl, HR.out, (by show RS = _; rw [← HRS.out, List.nil_append]), by simp, World.ownsRow_nil _ _ _ _, Below.refl _ _⟩
  case round =>
    obtain ⟨a2, n2, c2, rest, ls, rfl, hrd2, HL, hle, hown, hbl⟩ := hrel
    have hrdw := Lib.hid (hrd2.below hbl)
    have hsm := hrd2.small
    have hn2 := Lib.hid hrd2.1
    have HRD2 := Lib.hid hrd2; clear hrd2
    have hszr := hbl.size
    by_cases h0 : n2 = 0
    · subst h0
      have hx : rest = [] := List.eq_nil_of_length_eq_zero hn2.out
      have hfin : RS = ls := by rw [HL.out, hx, decV_nil, List.append_nil]
      subst hfin
      clear hx
      go_wp2
      go_ret
      exact ⟨_, rfl, hown.out, hbl⟩
    · have hpos : (0 : Int) < n2 := by omega
      have hne : Hid (rest ≠ []) := by
        intro h
        have h2 := hn2.out
        rw [h] at h2
        exact h0 (by simpa using h2.symm)
      obtain ⟨⟨R, N, M⟩, hW⟩ : ∃ q, wholeV rest = q := ⟨_, rfl⟩
      have HWV := Lib.hid hW
      cases M with
      | true =>
        obtain ⟨h1n, h2n⟩ := whole_out hW rfl
        obtain ⟨m, rfl⟩ : ∃ m : Nat, N = m := ⟨N.toNat, by omega⟩
        have hst := dec_step_t hne.out hW
        rw [show ((m : Int)).toNat = m from by simp] at hst
        have HST := Lib.hid hst
        have hm2 : m ≤ n2 := by have := hn2.out; omega
        clear hW hst
        go_wp2_with (first
          | (go_at_call 26; refine (whole_any a2 n2 c2 rest R m true _ hrdw.out HWV).mono ?_; rintro e w2 ⟨rfl, hb2⟩; have B2 := Lib.hid hb2; clear hb2)
          | (at_builtin; go_must (refine wpList_appNew rfl _ _ 24 rfl w.heap.size 21 i0 (.int .i32 0) 4 Try.underlying24 hi hz0 hz1 hz2 rfl _ _ _ rfl (own_below hown.out B2.out hszr) _ _ 1 rfl rfl ?d1 ?d2 ?d3 ?d4 ?_)))
        case d1 => simp [Value.oneCell']
        case d2 => unfold maxLen; omega
        case d3 => omega
        case d4 => have := B2.out.size; omega
        intro v3 w3 ho3 hb3
        go_wp2_with fail
        go_roundw
        case rel => exact ⟨_, _, _, rest.drop m, ls ++ [R], rfl, (by simpa using HRD2.out.drop m hm2), (by show RS = _; rw [HL.out, HST.out, List.append_assoc]; rfl), (by simp; omega), (by show World.ownsRow _ _ _ _ _ _ _; simpa using ho3), hbl.trans ((B2.out.mono (B' := w.heap.size) hszr).trans hb3)⟩
        case measure => simp only [lenOf]; omega
      | false =>
        have hst := dec_step_f hne.out hW
        have HST := Lib.hid hst
        clear hW hst
        go_wp2_with (first
          | (go_at_call 26; refine (whole_any a2 n2 c2 rest R N false _ hrdw.out HWV).mono ?_; rintro e w2 ⟨rfl, hb2⟩; have B2 := Lib.hid hb2; clear hb2)
          | (at_builtin; go_must (refine wpList_appNew rfl _ _ 24 rfl w.heap.size 21 i0 (.int .i32 0) 4 Try.underlying24 hi hz0 hz1 hz2 rfl _ _ _ rfl (own_below hown.out B2.out hszr) _ _ 1 rfl rfl ?e1 ?e2 ?e3 ?e4 ?_)))
        case e1 => simp [Value.oneCell']
        case e2 => unfold maxLen; omega
        case e3 => omega
        case e4 => have := B2.out.size; omega
        intro v3 w3 ho3 hb3
        go_wp2_with fail
        go_roundw
        case rel => exact ⟨_, _, _, rest.drop 1, ls ++ [65533], rfl, (by have h := HRD2.out.drop 1 (by omega); exact h), (by show RS = _; rw [HL.out, HST.out, List.append_assoc]; rfl), (by simp; omega), (by show World.ownsRow _ _ _ _ _ _ _; simpa using ho3), hbl.trans ((B2.out.mono (B' := w.heap.size) hszr).trans hb3)⟩
        case measure => simp only [lenOf]; omega

set_option maxHeartbeats 1000000 in
theorem refEncode_any (a : Option Addr) (len cap : Nat) (xs : List Int) (w : World) (hr : Rd .i32 w a len cap xs) (hbig : len * 4 ≤ 140737488355324) :
    Calls Try.prog 19 #[.slice a len cap] w fun e w' => ∃ v', e = .returned v' ∧
      w'.ownsRow w.heap.size 5 1 v' (encV xs).length ((encV xs).map (Value.int .u8)) ∧ Below w.heap.size w w' := by
  obtain ⟨i0, hi, hz0, hz1, hz2⟩ := info_parts infoB
  have hsm := hr.small
  obtain ⟨r1, r2, r3, r4, r6, r5⟩ := hr
  have HL := Lib.hid r1
  by_cases h0 : len = 0
  · subst h0
    obtain rfl : xs = [] := List.eq_nil_of_length_eq_zero r1
    clear r1
    go_enter Try.func19, Try.ntmps19
    go_wp2
    go_loopw [3, 4] (fun v i wr => v = .slice none 0 0 ∧ i = .int .i64 0 ∧ wr = w) (fun _ _ _ => 0)
    case atStart => exact ⟨rfl, rfl, rfl⟩
    case round =>
      obtain ⟨rfl, rfl, rfl⟩ := hrel
      go_wp2
      go_ret
      exact ⟨_, rfl, World.ownsRow_nil _ _ _ _, Below.refl _ _⟩
  · obtain ⟨b, off, rfl, hc⟩ := r5 (by omega)
    have hb : b < w.heap.size := block_lt_of_cell (hc 0 (by omega))
    unfold maxLen at r3
    have HC := Lib.hid hc
    clear r1 r4 r5 r6 hc
    go_enter Try.func19, Try.ntmps19
    go_wp2
    go_loopw [3, 4] (fun v i wr => ∃ k : Nat, k ≤ len ∧ i = .int .i64 k ∧ Hid (wr.ownsRow w.heap.size 5 1 v (encV (xs.take k)).length ((encV (xs.take k)).map (Value.int .u8))) ∧ Below w.heap.size w wr)
      (fun _ i _ => len - (intOf i).toNat)
    case atStart => exact ⟨0, Nat.zero_le _, rfl, World.ownsRow_nil _ _ _ _, Below.refl _ _⟩
    case round =>
      obtain ⟨k, hk, rfl, hown, hbl⟩ := hrel
      by_cases hlt : k < len
      · have hcx : wr.cell? ⟨b, off + k, none⟩ = some (.int .i32 (xs.getD k 0)) := (hbl.cell (by exact hb)).trans (HC.out k hlt)
        obtain ⟨x, hx⟩ : ∃ x, xs.getD k 0 = x := ⟨_, rfl⟩
        rw [hx] at hcx
        have HX := Lib.hid hx; clear hx
        have hl4 := encV_len (xs.take k)
        have hsz := hbl.size
        have htl : (xs.take k).length ≤ k := List.length_take_le _ _
        have hel := encB_len (scal x)
        obtain ⟨E, hE⟩ : ∃ E, encB (scal x) = E := ⟨_, rfl⟩
        have HEB : Hid (∀ y ∈ E, (Lit.int .u8 y).wf = true) := by rw [← hE]; exact fun y hy => byte_wf (encB_bytes _ (scal_in x).1 (scal_in x).2 y hy)
        have HOne : Hid (∀ W : World, Calls Try.prog 17 #[.int .i32 x] W fun e w' => ∃ v', e = .returned v' ∧ w'.ownsRow W.heap.size 5 1 v' E.length (E.map (Value.int .u8)) ∧ Below W.heap.size W w') := by
          intro W
          have h := refOne_any x W
          rw [hE] at h
          exact h
        rw [hE] at hel
        have HE := Lib.hid hE; clear hE
        obtain ⟨L, hLk⟩ : ∃ L, (encV (xs.take k)).length = L := ⟨_, rfl⟩
        rw [hLk] at hown hl4
        have HLK := Lib.hid hLk; clear hLk
        go_wp2_with (first
          | (go_at_call 17; refine (HOne.out _).mono ?_; rintro e w1 ⟨v1, rfl, hown1, hb1⟩; obtain ⟨a1, c1, hv1⟩ := own_slice hown1; subst hv1; have HO1 := Lib.hid hown1; clear hown1; have B1 := Lib.hid hb1; clear hb1)
          | (at_builtin; go_must (refine wpList_appRd rfl _ _ 22 rfl w.heap.size 5 i0 (.int .u8 0) 1 Try.underlying22 hi hz0 hz1 hz2 rfl _ _ _ rfl (own_below hown.out B1.out hsz) .u8 _ _ _ E rfl (Rd.own HO1.out HEB.out) ?d1 ?d2 ?d3 ?_)))
        case d1 => unfold maxLen; omega
        case d2 => omega
        case d3 => have := B1.out.size; omega
        intro v2 w2 ho2 hb2
        have R := enc_step (xs := xs) (k := k) (by have := HL.out; omega) (by rw [HX.out, HE.out, HLK.out]; exact ho2) hbl ((B1.out.mono (B' := w.heap.size) hsz).trans hb2)
        go_wp2_with fail
        go_roundw
        case rel => exact ⟨k + 1, by omega, by go_num, R.1, R.2⟩
        case measure => simp [intOf]; omega
      · obtain rfl : k = len := by omega
        go_wp2
        go_ret
        have h := hown.out
        rw [List.take_of_length_le (by have := HL.out; omega)] at h
        exact ⟨_, rfl, h, hbl⟩

/-- bytes that can be read, as a string -/
theorem conv_any {P : Program} (src e dst : TypeId) (hs : P.underlying src = some (.slice e)) (he : P.underlying e = some (.int .u8)) (hd : P.underlying dst = some .string)
    (a : Option Addr) (len cap : Nat) (xs : List Int) (w : World) (hr : Rd .u8 w a len cap xs) : (convert src dst (.slice a len cap)).run P w = .ok (.string (strOfNums xs)) w := by
  by_cases h0 : len = 0
  · subst h0
    have hx : xs = [] := List.eq_nil_of_length_eq_zero hr.1
    subst hx
    cases a with
    | none =>
      have h := run_convert_bytes_nil (P := P) w src e hs he 0 cap dst hd
      rw [h]; rfl
    | some x =>
      have hl : (loadCells x 0).run P w = .ok (([] : List Int).map (Value.int .u8)).toArray w := run_loadCells_list (P := P) w x [] (fun j v hj => by simp at hj)
      rw [run_convert_bytes_string w src dst e _ 0 cap hs he hd, run_bytesToString w _ 0 cap [] hl, foldl_push_bytes]
      rfl
  · obtain ⟨b, off, rfl, hc⟩ := hr.2.2.2.2.2 (by omega)
    exact run_convert_bytes_arg w src e hs he b off len cap xs hr.1 hc dst hd

end Go.Proofs.Ytcjngpgicegacaa.U
