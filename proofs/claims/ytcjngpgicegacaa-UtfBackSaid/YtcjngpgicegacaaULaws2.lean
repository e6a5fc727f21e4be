/-
  The walks of the laws of layer 1 that ask no document's answer but the comparison: UtfBack, UtfJoins.
-/
import Derived.Test.YtcjngpgicegacaaULaws1
import Derived.Test.YtcjngpgicegacaaUPureB
namespace Go.Proofs.Ytcjngpgicegacaa.U
open Go.RowKit
set_option linter.unusedVariables false
set_option linter.unusedSimpArgs false

theorem utfJoins_walk (a1 : Option Addr) (len1 cap1 : Nat) (xs : List Int) (a2 : Option Addr) (len2 cap2 : Nat) (ys : List Int) (w : World) (h1 : Rd .i32 w a1 len1 cap1 xs) (h2 : Rd .u8 w a2 len2 cap2 ys) (b1 : len1 ≤ 1048576) (b2 : len2 ≤ 1048576) :
    Calls Try.prog 8 #[.slice a1 len1 cap1, .slice a2 len2 cap2] w fun e w' => e = .returned (.bool true) ∧ Below w.heap.size w w' := by
  obtain ⟨i0, hi, hz0, hz1, hz2⟩ := info_parts infoB
  obtain ⟨j0, hj, hy0, hy1, hy2⟩ := info_parts infoR
  have hl1 := Lib.hid h1.1
  have hl2 := Lib.hid h2.1
  have H1 := Lib.hid h1; clear h1
  have H2 := Lib.hid h2; clear h2
  go_enter Try.func8, Try.ntmps8
  go_wp2_with fail
  refine (encode_any a1 len1 cap1 xs w H1.out (by omega)).mono ?_
  rintro e w1 ⟨v1, rfl, hown1, hb1⟩
  obtain ⟨E, hE⟩ : ∃ E, encV xs = E := ⟨_, rfl⟩
  have hEl := encV_len xs
  have hEb := encV_bytes xs
  rw [hE] at hown1 hEl hEb
  obtain ⟨ax, cx, rfl⟩ := own_slice hown1
  have R1 := Lib.hid (Rd.own hown1 (fun x hx => byte_wf (hEb x hx)))
  have HEb := Lib.hid hEb; clear hEb
  have hEl' : E.length ≤ 4194304 := by have := hl1.out; omega
  have HE := Lib.hid hE; clear hE hEl hown1
  have B1 := Lib.hid hb1
  have s1 := hb1.size
  clear hb1
  have hnew : Hid (∀ c : Obj, c = .cells #[] 5 → (w1.alloc c).ownsRow w1.heap.size 5 1 (.slice (some ⟨w1.heap.size, 0, none⟩) 0 0) 0 []) := by
    intro c hc; subst hc
    exact World.ownsRow_made w1 #[] 0 (Nat.le_refl _) (by unfold maxLen; omega) rfl
  go_wp2_with (first
    | (at_builtin; go_must (refine wpList_appRd rfl (.tmp 9) (.tmp 10) 22 rfl w1.heap.size 5 i0 (.int .u8 0) 1 Try.underlying22 hi hz0 hz1 hz2 rfl _ _ _ rfl (hnew.out _ rfl) .u8 _ _ _ E rfl (R1.out.alloc _) ?d1 ?d2 ?d3 ?_)))
  case d1 => unfold maxLen; omega
  case d2 => omega
  case d3 => simp
  intro v2 w2 ho2 hb2
  have HO2 := Lib.hid ho2; clear ho2
  have B2 := Lib.hid (((Below.refl _ w1).alloc (Nat.le_refl _) (.cells #[] 5)).trans (hb2.mono (B' := w1.heap.size) (by simp)))
  have s2 := B2.out.size
  clear hb2 hnew
  go_wp2_with (first
    | (at_builtin; go_must (refine wpList_appRd rfl (.tmp 11) (.tmp 12) 22 rfl w1.heap.size 5 i0 (.int .u8 0) 1 Try.underlying22 hi hz0 hz1 hz2 rfl _ _ _ rfl HO2.out .u8 _ _ _ ys rfl ((H2.out.below B1.out).below B2.out) ?e1 ?e2 ?e3 ?_)))
  case e1 => unfold maxLen; omega
  case e2 => omega
  case e3 => omega
  intro v3 w3 ho3 hb3
  obtain ⟨n3, hn3⟩ : ∃ n3, E.length + len2 = n3 := ⟨_, rfl⟩
  rw [← List.map_append, hn3] at ho3
  obtain ⟨a3, c3, rfl⟩ := own_slice ho3
  have R3 := Lib.hid (Rd.own ho3 (fun x hx => by
    rcases List.mem_append.1 hx with hx | hx
    · exact byte_wf (HEb.out x hx)
    · exact H2.out.2.2.2.1 x hx))
  have hn3' : n3 ≤ 5242880 := by omega
  have HN3 := Lib.hid hn3; clear hn3
  have B3 := Lib.hid (hb3.mono (B' := w1.heap.size) (Nat.le_refl _))
  have B03 := Lib.hid ((B1.out.trans (B2.out.mono (B' := w.heap.size) s1)).trans (hb3.mono (B' := w.heap.size) s1))
  have B13 := Lib.hid (B2.out.trans hb3)
  have s3 := B03.out.size
  have s13 := B13.out.size
  clear hb3 ho3 HO2
  go_wp2_with fail
  refine (decode_any a3 n3 c3 (E ++ ys) w3 R3.out (by omega)).mono ?_
  rintro e w4 ⟨v4, rfl, hown4, hb4⟩
  obtain ⟨D, hD⟩ : ∃ D, decV (E ++ ys) = D := ⟨_, rfl⟩
  rw [hD] at hown4
  obtain ⟨a4, c4, rfl⟩ := own_slice hown4
  have hby : ∀ x ∈ E ++ ys, 0 ≤ x ∧ x ≤ 255 := fun x hx => by
    rcases List.mem_append.1 hx with hx | hx
    · exact HEb.out x hx
    · exact wf_u8_in (H2.out.2.2.2.1 x hx)
  have R4 := Lib.hid (Rd.own hown4 (by rw [← hD]; exact decV_wf _ hby))
  have HD := Lib.hid hD; clear hD hown4
  have B4 := Lib.hid hb4
  have s4 := hb4.size
  clear hb4
  go_wp2_with fail
  refine (decode_any ax E.length cx E w4 ((R1.out.below B13.out).below B4.out) (by omega)).mono ?_
  rintro e w5 ⟨v5, rfl, hown5, hb5⟩
  obtain ⟨D1, hD1⟩ : ∃ D, decV E = D := ⟨_, rfl⟩
  have hDl1 := decV_len E
  rw [hD1] at hown5 hDl1
  have HO5 := Lib.hid hown5; clear hown5
  have HD1 := Lib.hid hD1; clear hD1
  have B5 := Lib.hid hb5
  have s5 := hb5.size
  clear hb5
  have B05 := Lib.hid ((B03.out.trans (B4.out.mono (B' := w.heap.size) s3)).trans (B5.out.mono (B' := w.heap.size) (by omega)))
  go_wp2_with fail
  refine (decode_any a2 len2 cap2 ys w5 (H2.out.below B05.out) (by omega)).mono ?_
  rintro e w6 ⟨v6, rfl, hown6, hb6⟩
  obtain ⟨D2, hD2⟩ : ∃ D, decV ys = D := ⟨_, rfl⟩
  have hDl2 := decV_len ys
  have hl2' := hl2.out
  rw [hD2] at hown6 hDl2
  obtain ⟨a6, c6, rfl⟩ := own_slice hown6
  have R6 := Lib.hid (Rd.own hown6 (by rw [← hD2]; exact decV_wf _ (fun x hx => hby x (List.mem_append_right _ hx))))
  have HD2 := Lib.hid hD2; clear hD2 hown6
  have hm2 : D2.length ≤ 1048576 := by omega
  clear hl2' hDl2
  have B6 := Lib.hid hb6
  have s6 := hb6.size
  clear hb6
  go_wp2_with (first
    | (at_builtin; go_must (refine wpList_appRd rfl (.tmp 17) (.tmp 19) 24 rfl w4.heap.size 21 j0 (.int .i32 0) 4 Try.underlying24 hj hy0 hy1 hy2 rfl _ _ _ rfl (own_below HO5.out B6.out s5) .i32 _ _ _ D2 rfl R6.out ?f1 ?f2 ?f3 ?_)))
  case f1 => unfold maxLen; omega
  case f2 => omega
  case f3 => omega
  intro v7 w7 ho7 hb7
  rw [← List.map_append, ← List.length_append] at ho7
  have hDD : D1 ++ D2 = D := by rw [← HD1.out, ← HD2.out, ← HD.out, ← HE.out, decV_enc_app, decV_enc]
  rw [hDD] at ho7
  obtain ⟨a7, c7, rfl⟩ := own_slice ho7
  have R7 := Lib.hid (Rd.own ho7 R4.out.2.2.2.1)
  have B46 := Lib.hid (B5.out.trans (B6.out.mono (B' := w4.heap.size) s5))
  have B7 := Lib.hid hb7
  have s7 := hb7.size
  have B07 := Lib.hid ((B05.out.trans (B6.out.mono (B' := w.heap.size) (by omega))).trans (hb7.mono (B' := w.heap.size) (by omega)))
  clear hb7 ho7 hDD
  go_wp2_with fail
  refine (runes_same a4 a7 D.length c4 c7 D w7 (R4.out.below (B46.out.trans B7.out)) R7.out).mono ?_
  rintro e w8 ⟨rfl, hb8⟩
  have B8 := Lib.hid hb8
  clear hb8
  go_wp2_with fail
  refine (awake_any _).mono ?_
  rintro e w9 ⟨rfl, hb9⟩
  have B9 := Lib.hid hb9
  clear hb9
  have s8 := B8.out.size
  go_wp2_with fail
  go_ret
  exact ⟨rfl, (B07.out.trans (B8.out.mono (B' := w.heap.size) (by omega))).trans (B9.out.mono (B' := w.heap.size) (by omega))⟩
set_option maxHeartbeats 1000000 in
theorem utfBack_walk (a1 : Option Addr) (len1 cap1 : Nat) (xs : List Int) (w : World) (h1 : Rd .i32 w a1 len1 cap1 xs) (b1 : len1 ≤ 1048576) :
    Calls Try.prog 6 #[.slice a1 len1 cap1] w fun e w' => e = .returned (.bool true) ∧ Below w.heap.size w w' := by
  have hl1 := Lib.hid h1.1
  have hi32 := Lib.hid h1.i32
  have H1 := Lib.hid h1; clear h1
  go_enter Try.func6, Try.ntmps6
  go_wp2_with fail
  refine (encode_any a1 len1 cap1 xs w H1.out (by omega)).mono ?_
  rintro e w1 ⟨v1, rfl, hown1, hb1⟩
  obtain ⟨E, hE⟩ : ∃ E, encV xs = E := ⟨_, rfl⟩
  have hEl := encV_len xs
  have hEb := encV_bytes xs
  rw [hE] at hown1 hEl hEb
  obtain ⟨ax, cx, rfl⟩ := own_slice hown1
  have R1 := Lib.hid (Rd.own hown1 (fun x hx => byte_wf (hEb x hx)))
  have hEl' : E.length ≤ 4194304 := by have := hl1.out; omega
  have HE := Lib.hid hE; clear hE hEl hown1 hEb
  have B1 := Lib.hid hb1
  have s1 := hb1.size
  clear hb1
  go_wp2_with fail
  refine (decode_any ax E.length cx E w1 R1.out (by omega)).mono ?_
  rintro e w2 ⟨v2, rfl, hown2, hb2⟩
  have hD : decV E = xs.map scal := by rw [← HE.out]; exact decV_enc xs
  rw [hD] at hown2
  obtain ⟨D, hDD⟩ : ∃ D, xs.map scal = D := ⟨_, rfl⟩
  have hlen : (xs.map scal).length = len1 := by rw [List.length_map]; exact hl1.out
  rw [hlen] at hown2
  have hwf : ∀ x ∈ xs.map scal, (Lit.int .i32 x).wf = true := by intro x hx; simp only [List.mem_map] at hx; obtain ⟨y, _, rfl⟩ := hx; exact scal_wf y
  rw [hDD] at hown2 hwf
  obtain ⟨a2, c2, rfl⟩ := own_slice hown2
  have R2 := Lib.hid (Rd.own hown2 hwf)
  have HDD := Lib.hid hDD
  have B2 := Lib.hid (B1.out.trans (hb2.mono (B' := w.heap.size) s1))
  have s2 := B2.out.size
  have hxd : Hid (∀ k, k < len1 → D.getD k 0 = scal (xs.getD k 0)) := by
    intro k hk
    have hk' : k < xs.length := by have := hl1.out; omega
    rw [← hDD, List.getD_eq_getElem?_getD, List.getD_eq_getElem?_getD, List.getElem?_map, List.getElem?_eq_getElem hk']; rfl
  clear hb2 hwf hlen hD hown2 hDD
  have hne : ((len1 : Int) != (len1 : Int)) = false := by simp
  by_cases h0 : len1 = 0
  · subst h0
    go_wp2_with fail
    go_loopw [4] (fun i wr => i = .int .i64 0 ∧ wr = w2) (fun _ _ => 0)
    case atStart => exact ⟨rfl, rfl⟩
    case round =>
      obtain ⟨rfl, rfl⟩ := hrel
      go_wp2_with (go_at_call 13; refine (awake_any _).mono ?_; rintro e w3 ⟨rfl, hb3⟩)
      go_ret
      exact ⟨rfl, B2.out.trans (hb3.mono (B' := w.heap.size) s2)⟩
  · obtain ⟨p1, o1, rfl, hc1⟩ := (H1.out.below B2.out).2.2.2.2.2 (by omega)
    obtain ⟨p2, o2, rfl, hc2⟩ := R2.out.2.2.2.2.2 (by omega)
    have HC1 := Lib.hid hc1; clear hc1
    have HC2 := Lib.hid hc2; clear hc2
    go_wp2_with fail
    go_loop [4] (fun i => ∃ k : Nat, k ≤ len1 ∧ i = .int .i64 k) (fun i => len1 - (intOf i).toNat)
    case atStart => exact ⟨0, by omega, rfl⟩
    case round =>
      obtain ⟨k, hk, rfl⟩ := hrel
      by_cases hlt : k < len1
      · have e1 := HC1.out k hlt
        have e2 := HC2.out k hlt
        have e3 := hxd.out k hlt
        have e4 := hi32.out k
        rw [e3] at e2
        obtain ⟨x, hx⟩ : ∃ x, xs.getD k 0 = x := ⟨_, rfl⟩
        rw [hx] at e1 e2 e4
        clear e3 hx
        have hcase : (0 ≤ x ∧ x < 55296) ∨ (57343 < x ∧ x ≤ 1114111) ∨ x < 0 ∨ 1114111 < x ∨ (55296 ≤ x ∧ x ≤ 57343) := by omega
        have hsame : (x != x) = false := by simp
        have hsameF : ((65533 : Int) != 65533) = false := by simp
        rcases hcase with ⟨q1, q2⟩ | ⟨q1, q2⟩ | q1 | q1 | ⟨q1, q2⟩
        all_goals first
          | rw [show scal x = x from scal_of_valid (by unfold validB; simp; omega)] at e2
          | rw [show scal x = 65533 from by unfold scal; rw [if_neg (by unfold validB; simp; omega)]] at e2
        all_goals
          go_wp2
          go_round
          case rel => exact ⟨k + 1, by omega, by go_num⟩
          case measure => simp [intOf]; omega
      · obtain rfl : k = len1 := by omega
        go_wp2_with (go_at_call 13; refine (awake_any _).mono ?_; rintro e w3 ⟨rfl, hb3⟩)
        go_ret
        exact ⟨rfl, B2.out.trans (hb3.mono (B' := w.heap.size) s2)⟩
end Go.Proofs.Ytcjngpgicegacaa.U
