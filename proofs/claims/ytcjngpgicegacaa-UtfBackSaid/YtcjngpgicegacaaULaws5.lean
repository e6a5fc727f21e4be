/-
  The walk of UtfEncodes.
-/
import Derived.Test.YtcjngpgicegacaaURefD
import Derived.Test.YtcjngpgicegacaaULaws1
import Derived.Deep.RegionHeld3
namespace Go.Proofs.Ytcjngpgicegacaa.U
open Go.RowKit
set_option linter.unusedVariables false
set_option linter.unusedSimpArgs false

theorem valid_is (r : Int) (b : Bool) (w : World) (h : Hid (validB r = b)) :
    Calls Try.prog 14 #[.int .i32 r] w fun e w' => e = .returned (.bool b) ∧ w = w' := by
  have := h.out; subst this; exact valid_any r w
theorem len_hid (r n : Int) (w : World) (h : Hid (lenV r = n)) :
    Calls Try.prog 16 #[.int .i32 r] w fun e w' => e = .returned (.int .i64 n) ∧ w = w' := len_is r n w h

theorem held_step {w W w2 : World} {p : Addr} {v : Value} (h : W.cell? p = some v ∧ Below w.heap.size w W) (hp : p.block < w.heap.size) (hb : Below W.heap.size W w2) : w2.cell? p = some v ∧ Below w.heap.size w w2 :=
  ⟨(hb.cell (p := p) (Nat.lt_of_lt_of_le hp h.2.size)).trans h.1, h.2.trans (hb.mono h.2.size)⟩

set_option maxHeartbeats 2000000 in
theorem utfEncodes_walk (a : Option Addr) (len cap : Nat) (xs : List Int) (w : World) (h : Rd .i32 w a len cap xs) (b1 : len ≤ 1048576) :
    Calls Try.prog 4 #[.slice a len cap] w fun e w' => e = .returned (.bool true) ∧ Below w.heap.size w w' := by
  have HL := Lib.hid h.1
  have HR := Lib.hid h
  have hfirst : 0 < len → ∃ b off, a = some ⟨b, off, none⟩ ∧ ∀ i, i < len → w.cell? ⟨b, off + i, none⟩ = some (.int .i32 (xs.getD i 0)) := h.2.2.2.2.2
  clear h
  go_enter Try.func4, Try.ntmps4
  go_wp2_with fail
  go_loopw [3, 4] (fun n i wr => ∃ (k m : Nat), k ≤ len ∧ i = .int .i64 k ∧ n = .int .i64 m ∧ m ≤ 4194304 ∧ Hid ((encV (xs.take k)).length = m) ∧ Below w.heap.size w wr) (fun _ i _ => len - (intOf i).toNat)
  case atStart => exact ⟨0, 0, by omega, rfl, rfl, by omega, rfl, Below.refl _ _⟩
  case round =>
    obtain ⟨k, m, hk, rfl, rfl, hm, HM, hbl⟩ := hrel
    have hsz := hbl.size
    by_cases hlt : k < len
    · obtain ⟨b, off, rfl, hc⟩ := hfirst (by omega)
      have hb : b < w.heap.size := block_lt_of_cell (hc 0 (by omega))
      have hcx : wr.cell? ⟨b, off + k, none⟩ = some (.int .i32 (xs.getD k 0)) := (hbl.cell (by exact hb)).trans (hc k hlt)
      clear hc hfirst
      obtain ⟨x, hx⟩ : ∃ x, xs.getD k 0 = x := ⟨_, rfl⟩
      rw [hx] at hcx
      have HX := Lib.hid hx; clear hx
      obtain ⟨vb, hvb⟩ : ∃ vb, validB x = vb := ⟨_, rfl⟩
      have HVB := Lib.hid hvb; clear hvb
      have hvv : (vb != vb) = false := by simp
      obtain ⟨E, hE⟩ : ∃ E, encB (scal x) = E := ⟨_, rfl⟩
      have hel := encB_len (scal x)
      rw [hE] at hel
      obtain ⟨L, hL⟩ : ∃ L, E.length = L := ⟨_, rfl⟩
      have HLen : Hid (lenV x = (L : Int)) := by show _ = _; rw [lenV_eq, hE, hL]
      have HOne : Hid (∀ W : World, Calls Try.prog 17 #[.int .i32 x] W fun e w' => ∃ a' c', e = .returned (.slice a' L c') ∧ Below W.heap.size W w') := by
        intro W
        refine (refOne_any x W).mono ?_
        rintro e w' ⟨v', rfl, hown, hb⟩
        rw [hE, hL] at hown
        obtain ⟨a', c', rfl⟩ := own_slice hown
        exact ⟨a', c', rfl, hb⟩
      rw [hL] at hel
      have HE := Lib.hid hE; clear hE
      have HLL := Lib.hid hL; clear hL
      have hll : ((L : Int) != (L : Int)) = false := by simp
      have HM2 : Hid ((encV (xs.take (k + 1))).length = m + L) := by
        show _ = _
        rw [take_snoc xs k (by have := HL.out; omega), encV_snoc, List.length_append, HM.out, HX.out, HE.out, HLL.out]
      have hm2 : m + L ≤ 4194304 := by
        have h1 := encV_len (xs.take (k + 1))
        have h2 : (xs.take (k + 1)).length ≤ k + 1 := List.length_take_le _ _
        rw [HM2.out] at h1
        omega
      have hbw := Lib.hid hbl
      go_upto_region 5 with fail
      go_cut [36] (fun c wx => c = .bool false ∧ Below w.heap.size w wx)
      case first =>
        go_region_held3 (fun w' => w'.cell? ⟨b, off + k, none⟩ = some (.int .i32 x) ∧ Below w.heap.size w w')
          (first | exact ⟨hcx, hbl.drew⟩ | (refine held_step ?_ hb hb2; first | assumption | exact ⟨by assumption, by assumption⟩) | go_keep)
          (first
            | (go_at_call 14; refine (valid_is x vb _ HVB).mono ?_; rintro e w2 ⟨rfl, rfl⟩)
            | (go_at_call 15; refine (refValid_is x vb _ HVB).mono ?_; rintro e w2 ⟨rfl, rfl⟩)
            | (go_at_call 16; refine (len_hid x L _ HLen).mono ?_; rintro e w2 ⟨rfl, rfl⟩)
            | (go_at_call 17; refine (HOne.out _).mono ?_; rintro e w2 ⟨a', c', rfl, hb2⟩))
        all_goals
          go_wp2_with fail
          go_meet
          exact ⟨rfl, by first | assumption | (exact (And.right (by assumption)))⟩
      case rest =>
        obtain ⟨rfl, hbc⟩ := hcut
        have hcw : wc.cell? ⟨b, off + k, none⟩ = some (.int .i32 x) := by
          have h := HR.out.2.2.2.2.2 (by omega)
          obtain ⟨b', off', he, hc⟩ := h
          simp only [Option.some.injEq, Addr.mk.injEq, and_true] at he
          obtain ⟨rfl, rfl⟩ := he
          rw [← HX.out]
          exact (hbc.cell (by exact hb)).trans (hc k hlt)
        clear hcx hbl
        go_wp2_with (go_at_call 16; refine (len_hid x L _ HLen).mono ?_; rintro e w2 ⟨rfl, rfl⟩)
        go_roundw
        case rel => exact ⟨k + 1, m + L, by omega, by go_num, by go_num, by omega, HM2, hbc⟩
        case measure => simp [intOf]; omega
    · obtain rfl : k = len := by omega
      have hEl : (encV xs).length = m := by
        have h := HM.out
        rwa [List.take_of_length_le (by have := HL.out; omega)] at h
      obtain ⟨E, hE⟩ : ∃ E, encV xs = E := ⟨_, rfl⟩
      have hEb := encV_bytes xs
      rw [hE] at hEl hEb
      have HEW : Hid (∀ x ∈ E, (Lit.int .u8 x).wf = true) := fun x hx => byte_wf (hEb x hx)
      have HE := Lib.hid hE; clear hE hEb
      have HEL := Lib.hid hEl; clear hEl
      obtain ⟨s, hs⟩ : ∃ s, strOfNums E = s := ⟨_, rfl⟩
      have HS := Lib.hid hs; clear hs
      have hmm : ((m : Int) == (m : Int)) = true := by simp
      have HREF : Hid (∀ W : World, Below w.heap.size w W → Calls Try.prog 19 #[.slice a k cap] W fun e w' => ∃ a' c', e = .returned (.slice a' m c') ∧ Below W.heap.size W w' ∧
          (convert 22 9 (.slice a' m c')).run Try.prog w' = .ok (.string s) w') := by
        intro W hW
        refine (refEncode_any a k cap xs W (HR.out.below hW) (by omega)).mono ?_
        rintro e w' ⟨v', rfl, hown, hb⟩
        rw [HE.out, HEL.out] at hown
        obtain ⟨a', c', rfl⟩ := own_slice hown
        refine ⟨a', c', rfl, hb, ?_⟩
        rw [conv_any (P := Try.prog) 22 5 9 Try.underlying22 Try.underlying5 Try.underlying9 a' m c' E w' (Rd.own hown HEW.out), HS.out]
      go_wp2_with fail
      refine (encode_any a k cap xs wr (HR.out.below hbl) (by omega)).mono ?_
      rintro e w1 ⟨v1, rfl, hown1, hb1⟩
      rw [HE.out, HEL.out] at hown1
      obtain ⟨a1, c1, rfl⟩ := own_slice hown1
      have R1 := Lib.hid (Rd.own hown1 HEW.out : Rd .u8 w1 a1 m c1 E)
      have B1 := Lib.hid (hbl.trans (hb1.mono (B' := w.heap.size) hsz))
      have s1 := B1.out.size
      have HCV : Hid (∀ W : World, Below w1.heap.size w1 W → (convert 22 9 (.slice a1 m c1)).run Try.prog W = .ok (.string s) W) := by
        intro W hW
        rw [conv_any (P := Try.prog) 22 5 9 Try.underlying22 Try.underlying5 Try.underlying9 a1 m c1 E W (R1.out.below hW), HS.out]
      clear hown1 hb1
      go_upto_region 9 with fail
      have hcv0 := HCV.out w1 (Below.refl _ _)
      have hcv1 := HCV.out w1.drew (Below.refl _ _).drew
      go_region_with (first
        | (go_at_call 19; refine (HREF.out _ (by first | exact B1.out.drew | exact B1.out)).mono ?_; rintro e w2 ⟨a', c', rfl, hb2, hcv2⟩; have hcv3 := HCV.out w2 (by first | exact (Below.refl _ _).drew.trans hb2 | exact hb2); have B2 := Lib.hid (below_via B1.out hb2 s1 ⟨rfl, rfl, rfl, rfl⟩))
        | (go_at_call 13; refine (awake_any _).mono ?_; rintro e w3 ⟨rfl, hb3⟩))
      all_goals
        go_wp2_with fail
        go_ret
        exact ⟨rfl, B2.out.trans (hb3.mono (B' := w.heap.size) B2.out.size)⟩
end Go.Proofs.Ytcjngpgicegacaa.U
