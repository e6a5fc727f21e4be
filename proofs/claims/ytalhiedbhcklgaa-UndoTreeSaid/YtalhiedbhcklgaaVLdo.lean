/-
  The law's do: changes done to lines, one behind the other.
-/
import Derived.Test.YtalhiedbhcklgaaVBnd
import Derived.Test.YtalhiedbhcklgaaVDo
namespace Go.Proofs.Ytalhiedbhcklgaa.U
open Go.RowKit
set_option linter.unusedVariables false
set_option linter.unusedSimpArgs false
set_option maxRecDepth 100000

set_option maxHeartbeats 4000000 in
theorem lawdo_any (F G : Nat → Prop) (a b : Option Addr) (n c m d : Nat) (L R : List (List Int)) (cs : List Ch) (w : World) (h : RdL F w a n c L) (k : RdCs G w b m d cs) (hd : DoM L cs R) (hm : m ≤ 1099511627776) :
    Calls Try.prog 37 #[.slice a n c, .slice b m d] w fun e w' => ∃ a' n' c', e = .returned (.tuple #[.slice a' n' c', .bool true]) ∧ RdL (fun k => F k ∨ (w.heap.size ≤ k ∧ k < w'.heap.size)) w' a' n' c' R ∧ Below w.heap.size w w' := by
  have HLEN := Lib.hid k.len
  have K := Lib.hid k
  have H0 : Hid (RdL (fun k => F k ∨ (w.heap.size ≤ k ∧ k < w.heap.size)) w a n c L ∧ DoM L (cs.drop 0) R ∧ Below w.heap.size w w) := ⟨h.mono (fun k hk => .inl hk), hd, Below.refl _ _⟩
  obtain ⟨B, hB⟩ : ∃ B, w.heap.size = B := ⟨_, rfl⟩
  have HB := Lib.hid hB
  rw [hB] at H0 ⊢
  clear h k hd hB
  go_enter Try.func37, Try.ntmps37
  go_wp2_with fail
  go_loopw [0, 6] (fun v0 v6 wr => ∃ (j : Nat) (a' : Option Addr) (n' c' : Nat) (Lj : List (List Int)), v6 = .int .i64 (j : Nat) ∧ v0 = .slice a' n' c' ∧ j ≤ m ∧ Hid (RdL (fun k => F k ∨ (B ≤ k ∧ k < wr.heap.size)) wr a' n' c' Lj ∧ DoM Lj (cs.drop j) R ∧ Below B w wr)) (fun _ v6 _ => ((m : Int) - intOf v6).toNat)
  case atStart => exact ⟨0, a, n, c, L, rfl, rfl, Nat.zero_le _, by rw [HB.out]; exact H0.out⟩
  case round =>
    obtain ⟨j, a', n', c', Lj, rfl, rfl, hj, hst⟩ := hrel
    by_cases hlt : (j : Int) < (m : Int)
    · obtain ⟨x, hx⟩ : ∃ x, cs[j]? = some x := ⟨_, List.getElem?_eq_getElem (by have := HLEN.out; omega)⟩
      obtain ⟨hr, hdo, hb⟩ := hst.out
      obtain ⟨b', off, oa, oc, na, nc, rfl, hbl, c0, c1, c2, r1, r2⟩ := K.out.get (by rw [HB.out]; exact hb) hx
      have hbw : b' < wr.heap.size := by have := hb.size; have := HB.out; omega
      have hBw : B ≤ wr.heap.size := by have := hb.size; have := HB.out; omega
      have hdr : cs.drop j = x :: cs.drop (j + 1) := by
        obtain ⟨q1, q2⟩ := List.getElem?_eq_some_iff.1 hx
        rw [List.drop_eq_getElem_cons q1, q2]
      rw [hdr] at hdo
      obtain ⟨h1, hfit, h3⟩ := hdo
      have HT : Hid (Calls Try.prog 13 #[.slice a' n' c', .agg #[.int .i64 x.pos, .slice oa x.old.length oc, .slice na x.now.length nc]] wr fun e w1 => ∃ a1 n1 c1, e = .returned (.tuple #[.slice a1 n1 c1, .int .i64 0]) ∧ Hid (RdL (fun k => F k ∨ (B ≤ k ∧ k < w1.heap.size)) w1 a1 n1 c1 (doC Lj x).1 ∧ DoM (doC Lj x).1 (cs.drop (j + 1)) R ∧ Below B w w1)) := by
        refine (do_any _ G a' oa na n' c' oc nc Lj x wr hr r1 r2 hfit.1 ?_).mono ?_
        · have g1 := hfit.2.2.1.1
          have g2 := hfit.2.2.2.1.1
          unfold siz capM at g1 g2
          omega
        · rintro e w1 ⟨a1, c1, rfl, hf1, hb1⟩
          refine ⟨a1, _, c1, by rw [h1], (hf1.rdl2 hfit.2.2.2.2.2).mono (fun k hk => .inr ⟨by omega, hk.2⟩), h3, hb.trans (hb1.mono hBw)⟩
      obtain ⟨z1, e1⟩ : ∃ z, x.old.length = z := ⟨_, rfl⟩
      obtain ⟨z2, e2⟩ : ∃ z, x.now.length = z := ⟨_, rfl⟩
      obtain ⟨p1, e5⟩ : ∃ z, x.pos = z := ⟨_, rfl⟩
      rw [e1, e2, e5] at HT
      rw [e5] at c0
      rw [e1] at c1
      rw [e2] at c2
      clear hst hr hb hx r1 r2 e1 e2 e5 hdr h1 hfit h3
      go_wp2_with fail
      refine HT.out.mono ?_
      rintro e w1 ⟨a1, n1, c1', rfl, HN⟩
      clear HT
      go_wp2_with fail
      go_roundw
      case rel => exact ⟨j + 1, a1, n1, c1', _, rfl, rfl, by omega, HN⟩
      case measure => first | (simp [intOf]; done) | (simp [intOf]; omega)
    · obtain rfl : j = m := by omega
      have HF : Hid (RdL (fun k => F k ∨ (B ≤ k ∧ k < wr.heap.size)) wr a' n' c' R ∧ Below B w wr) := by
        obtain ⟨q1, q2, q3⟩ := hst.out
        rw [List.drop_of_length_le (by have := HLEN.out; omega)] at q2
        cases q2
        exact ⟨q1, q3⟩
      clear hst
      go_wp2_with fail
      go_ret2
      exact ⟨_, _, _, rfl, HF.out.1, HF.out.2⟩
end Go.Proofs.Ytalhiedbhcklgaa.U
