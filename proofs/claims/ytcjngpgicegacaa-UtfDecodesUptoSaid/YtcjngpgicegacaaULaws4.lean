/-
  The walks of UtfDecodes and UtfEncodes.
-/
import Derived.Test.YtcjngpgicegacaaURefD
import Derived.Test.YtcjngpgicegacaaULaws1
namespace Go.Proofs.Ytcjngpgicegacaa.U
open Go.RowKit
set_option linter.unusedVariables false
set_option linter.unusedSimpArgs false

theorem own_nothing (W : World) (c : Obj) (hc : c = .cells #[] 5) : (W.alloc c).ownsRow W.heap.size 5 1 (.slice (some ⟨W.heap.size, 0, none⟩) 0 0) 0 [] := by
  subst hc
  exact World.ownsRow_made W #[] 0 (Nat.le_refl _) (by unfold maxLen; omega) rfl

set_option maxHeartbeats 1000000 in
theorem utfDecodes_walk (a : Option Addr) (len cap : Nat) (xs : List Int) (w : World) (h : Rd .u8 w a len cap xs) (b1 : len ≤ 1048576) :
    Calls Try.prog 3 #[.slice a len cap] w fun e w' => e = .returned (.bool true) ∧ Below w.heap.size w w' := by
  obtain ⟨i0, hi, hz0, hz1, hz2⟩ := info_parts infoB
  have HW := Lib.hid h.2.2.2.1
  have HBY : Hid (∀ x ∈ xs, 0 ≤ x ∧ x ≤ 255) := fun x hx => wf_u8_in (h.2.2.2.1 x hx)
  have HR := Lib.hid h; clear h
  have hnew := Lib.hid own_nothing
  obtain ⟨D, hD⟩ : ∃ D, decV xs = D := ⟨_, rfl⟩
  have HDW : Hid (∀ x ∈ D, (Lit.int .i32 x).wf = true) := by rw [← hD]; exact decV_wf xs HBY.out
  have HD := Lib.hid hD; clear hD
  obtain ⟨s, hs⟩ : ∃ s, strOfNums xs = s := ⟨_, rfl⟩
  have HS := Lib.hid hs; clear hs
  go_enter Try.func3, Try.ntmps3
  go_wp2_with (at_builtin; go_must (refine wpList_appRd rfl (.tmp 4) (.tmp 5) 22 rfl w.heap.size 5 i0 (.int .u8 0) 1 Try.underlying22 hi hz0 hz1 hz2 rfl _ _ _ rfl (hnew.out w _ rfl) .u8 _ _ _ xs rfl (HR.out.alloc _) ?d1 ?d2 ?d3 ?_))
  case d1 => unfold maxLen; omega
  case d2 => omega
  case d3 => simp
  intro v1 w1 ho1 hb1
  have ho1' : w1.ownsRow w.heap.size 5 1 v1 len (xs.map (Value.int .u8)) := by simpa using ho1
  obtain ⟨a1, c1, rfl⟩ := own_slice ho1'
  have R1 := Lib.hid (Rd.own ho1' HW.out)
  have B1 := Lib.hid (((Below.refl _ w).alloc (Nat.le_refl _) (.cells #[] 5)).trans hb1)
  have s1 := B1.out.size
  clear ho1 ho1' hb1
  go_wp2_with fail
  refine (decode_any a1 len c1 xs w1 R1.out (by omega)).mono ?_
  rintro e w2 ⟨v2, rfl, hown2, hb2⟩
  rw [HD.out] at hown2
  obtain ⟨a2, c2, rfl⟩ := own_slice hown2
  have R2 := Lib.hid (Rd.own hown2 HDW.out)
  have B2 := Lib.hid hb2
  have s2 := hb2.size
  have B02 := Lib.hid (B1.out.trans (hb2.mono (B' := w.heap.size) s1))
  clear hown2 hb2
  go_wp2_with fail
  refine (refDecode_any a len cap xs w2 (HR.out.below B02.out) (by omega)).mono ?_
  rintro e w3 ⟨v3, rfl, hown3, hb3⟩
  rw [HD.out] at hown3
  obtain ⟨a3, c3, rfl⟩ := own_slice hown3
  have R3 := Lib.hid (Rd.own hown3 HDW.out)
  have B3 := Lib.hid hb3
  have s3 := hb3.size
  have B03 := Lib.hid (B02.out.trans (hb3.mono (B' := w.heap.size) (by omega)))
  clear hown3 hb3
  go_wp2_with fail
  refine (runes_same a2 a3 D.length c2 c3 D w3 (R2.out.below B3.out) R3.out).mono ?_
  rintro e w4 ⟨rfl, hb4⟩
  have B4 := Lib.hid hb4
  have s4 := hb4.size
  have B04 := Lib.hid (B03.out.trans (hb4.mono (B' := w.heap.size) (by omega)))
  have B14 := Lib.hid ((B2.out.trans (B3.out.mono (B' := w1.heap.size) s2)).trans (hb4.mono (B' := w1.heap.size) (by omega)))
  clear hb4
  have hcv1 := conv_any (P := Try.prog) 22 5 9 Try.underlying22 Try.underlying5 Try.underlying9 a1 len c1 xs w4 (R1.out.below B14.out)
  have hcv2 := conv_any (P := Try.prog) 22 5 9 Try.underlying22 Try.underlying5 Try.underlying9 a len cap xs w4 (HR.out.below B04.out)
  rw [HS.out] at hcv1 hcv2
  go_wp2_with (go_at_call 13; refine (awake_any _).mono ?_; rintro e w5 ⟨rfl, hb5⟩)
  go_ret
  exact ⟨rfl, B04.out.trans (hb5.mono (B' := w.heap.size) (by omega))⟩
end Go.Proofs.Ytcjngpgicegacaa.U
