/-
  The document's Back; the law's one.
-/
import Derived.Test.YtalhiedbhcklgaaVTurn
import Derived.Test.YtalhiedbhcklgaaVChR
namespace Go.Proofs.Ytalhiedbhcklgaa.U
open Go.RowKit
set_option linter.unusedVariables false
set_option linter.unusedSimpArgs false
set_option maxRecDepth 100000

set_option maxHeartbeats 4000000 in
theorem rback_any (F : Nat → Prop) (a : Option Addr) (n c : Nat) (cs : List Ch) (w : World) (h : RdCs F w a n c cs) (hok : ∀ x ∈ cs, OkC x) (hn : n ≤ 1048576) :
    Calls Try.prog 47 #[.slice a n c] w fun e w' => ∃ a' c', e = .returned (.slice a' n c') ∧ MyCs w.heap.size w' a' n c' (backC cs) ∧ Below w.heap.size w w' := by
  have hl := h.len
  have H := Lib.hid h
  have HL := Lib.hid hl
  have HOK := Lib.hid hok
  clear h hl hok
  obtain ⟨B, hB⟩ : ∃ B, w.heap.size = B := ⟨_, rfl⟩
  have HB := Lib.hid hB
  rw [hB]
  clear hB
  go_enter Try.func47, Try.ntmps47
  go_wp2_with fail
  go_loopw [3, 4] (fun v3 v4 wr => ∃ (m : Nat) (z : Int) (ra : Option Addr) (rc : Nat), v4 = .int .i64 z ∧ z + 1 ≤ m ∧ (m : Int) ≤ z + 1 ∧ v3 = .slice ra (n - m) rc ∧ m ≤ n ∧ Hid (MyCs B wr ra (n - m) rc (backC (cs.drop m)) ∧ Below B w wr)) (fun _ v4 _ => (intOf v4 + 1).toNat)
  case atStart =>
    refine ⟨n, _, none, 0, rfl, by omega, by omega, by rw [Nat.sub_self], Nat.le_refl _, ?_, by rw [← HB.out]; exact Below.refl _ _⟩
    rw [List.drop_of_length_le (by have := HL.out; omega), Nat.sub_self]
    exact MyCs.nil _ _
  case round =>
    obtain ⟨m, z, ra, rc, rfl, hz1, hz2, rfl, hm, hst⟩ := hrel
    by_cases hlt : 0 ≤ z
    · obtain ⟨j, rfl⟩ : ∃ j : Nat, z = j := ⟨z.toNat, by omega⟩
      have hjm : j + 1 = m := by omega
      subst hjm
      obtain ⟨x, hx⟩ : ∃ x, cs[j]? = some x := ⟨_, List.getElem?_eq_getElem (by have := HL.out; omega)⟩
      obtain ⟨hmy, hb⟩ := hst.out
      obtain ⟨b, off, oa, oc, na, nc, rfl, hbl, c0, c1, c2, r1, r2⟩ := H.out.get (by rw [HB.out]; exact hb) hx
      have hbw : b < wr.heap.size := by have := hb.size; have := HB.out; omega
      have hBw : B ≤ wr.heap.size := by have := hb.size; have := HB.out; omega
      have hok := HOK.out x (List.mem_of_getElem? hx)
      have HT : Hid (Calls Try.prog 18 #[.agg #[.int .i64 x.pos, .slice oa x.old.length oc, .slice na x.now.length nc]] wr fun e w1 => ∃ pa pc qa qc, e = .returned (.agg #[.int .i64 x.pos, .slice pa x.now.length pc, .slice qa x.old.length qc]) ∧ ∃ a' c' w', Hid (∀ ty, (Builtin.append_ #[41, 41] ty #[.slice ra (n - (j + 1)) rc, .slice (some ⟨w1.heap.size, 0, none⟩) 1 1]).run Try.prog (w1.alloc (.cells #[.int .i64 x.pos, .slice pa x.now.length pc, .slice qa x.old.length qc] 24)) = .ok (.slice a' (n - j) c') w') ∧
          Hid (MyCs B w' a' (n - j) c' (backC (cs.drop j)) ∧ Below B w w')) := by
        refine (rturned_any F oa na oc nc x wr r1 r2 hok).mono ?_
        intro e w1 hp
        obtain ⟨pa, pc, qa, qc, rfl, a', c', w', g1, g2, g3⟩ := my_cop hmy hBw hok.turn (by omega) hp
        have e1 : n - (j + 1) + 1 = n - j := by omega
        have e2 : backC (cs.drop j) = backC (cs.drop (j + 1)) ++ [turnC x] := by
          obtain ⟨q1, q2⟩ := List.getElem?_eq_some_iff.1 hx
          rw [List.drop_eq_getElem_cons q1, q2, backC_cons]
        rw [e1] at g1 g2
        rw [← e2] at g2
        exact ⟨pa, pc, qa, qc, rfl, a', c', w', g1, g2, hb.trans g3⟩
      obtain ⟨z1, e1⟩ : ∃ z, x.old.length = z := ⟨_, rfl⟩
      obtain ⟨z2, e2⟩ : ∃ z, x.now.length = z := ⟨_, rfl⟩
      obtain ⟨p1, e5⟩ : ∃ z, x.pos = z := ⟨_, rfl⟩
      rw [e1, e2, e5] at HT
      rw [e5] at c0
      rw [e1] at c1
      rw [e2] at c2
      obtain ⟨k, hk⟩ : ∃ k, n - (j + 1) = k := ⟨_, rfl⟩
      rw [hk] at HT
      rw [hk]
      clear hst hmy hb hx hok r1 r2 e1 e2 e5 hk
      go_wp2_with fail
      refine HT.out.mono ?_
      rintro e w1 ⟨pa, pc, qa, qc, rfl, a', c', w', HRUN, HN⟩
      clear HT
      go_wp2_with (at_builtin; go_must (with_reducible refine Lib.wpList_append_run _ rfl (.tmp 12) (.tmp 18) _ _ rfl _ _ rfl rfl _ _ (HRUN.out _) ?_))
      go_roundw
      case rel => exact ⟨j, _, a', c', rfl, by omega, by omega, rfl, by omega, HN⟩
      case measure => first | (simp [intOf]; done) | (simp [intOf]; omega)
    · obtain rfl : m = 0 := by omega
      have HF : Hid (MyCs B wr ra n rc (backC cs) ∧ Below B w wr) := by
        have := hst.out
        rw [List.drop_zero, Nat.sub_zero] at this
        exact this
      rw [Nat.sub_zero]
      clear hst
      go_wp2_with fail
      go_ret
      exact ⟨_, _, rfl, HF.out.1, HF.out.2⟩
end Go.Proofs.Ytalhiedbhcklgaa.U
