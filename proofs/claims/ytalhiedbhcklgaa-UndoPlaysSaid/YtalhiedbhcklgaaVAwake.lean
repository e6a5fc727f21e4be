/-
  The law's awake.
-/
import Derived.Test.YtalhiedbhcklgaaVOne
namespace Go.Proofs.Ytalhiedbhcklgaa.U
open Go.RowKit
set_option linter.unusedVariables false
set_option linter.unusedSimpArgs false
set_option maxRecDepth 100000

/-- one made, one added -/
theorem step_add {P F : Nat → Prop} {w0 w w1 : World} {bt : Nat} {t : Tr} {c : Ch} {e : Ending} (hT : TreeC P F w bt t) (hbw : Below w0.heap.size w0 w) (hPw : ∀ k, P k → w0.heap.size ≤ k) (hok : OkC c) (hlim : t.group.length < 1048576) (hc : CopP w c e w1) :
    ∃ oa oc na nc, e = .returned (.agg #[.int .i64 c.pos, .slice oa c.old.length oc, .slice na c.now.length nc]) ∧
      Calls Try.prog 21 #[.pointer (some ⟨bt, 0, none⟩), .agg #[.int .i64 c.pos, .slice oa c.old.length oc, .slice na c.now.length nc]] w1 fun e w' => e = .returned (.tuple #[]) ∧
        ∃ P' F', Hid (TreeC P' F' w' bt (t.add c)) ∧ Hid (Below w0.heap.size w0 w') ∧ Hid (∀ k, P' k → w0.heap.size ≤ k) ∧ Hid (Fr P w w') ∧ Hid (∀ k, P' k → P k ∨ w.heap.size ≤ k) := by
  obtain ⟨oa, oc, na, nc, rfl, h1, h2, hb⟩ := cop_rd (oa := none) hok hc
  have hs := hb.size
  have hs0 := hbw.size
  refine ⟨oa, oc, na, nc, rfl, (add_any (hT.below hb) oa na oc nc c h1 h2 (fun k hk hp => by have := hT.lt k hp; omega) hok hlim).mono ?_⟩
  rintro e w' ⟨rfl, P', F', a1, a2, a3⟩
  have hs2 := a2.size
  refine ⟨rfl, P', F', a1, (hbw.trans (hb.mono hs0)).trans (a2.below (by omega) hPw), fun k hk => ?_, (Fr.of_below P hb).trans a2 (fun _ _ h => h), fun k hk => ?_⟩
  · rcases a3 k hk with h | h
    · exact hPw k h
    · omega
  · rcases a3 k hk with h | h
    · exact .inl h
    · exact .inr (by omega)

theorem rdcs_lit {F : Nat → Prop} {W : World} {g : Nat} (us : List Tri) (cs : List Ch) (hg : W.heap[g]? = some (.cells (trip us).toArray 24 (0, 0))) (hl : us.length = cs.length) (hch : ∀ (i : Nat) (u : Tri) (x : Ch), us[i]? = some u → cs[i]? = some x → ChAt F W u x) (hsm : us.length ≤ 1048576) :
    RdCs (fun k => F k ∨ k = g) W (some ⟨g, 0, none⟩) us.length us.length cs := by
  have hown := own_of (B := 0) (n := us.length) (cap := us.length) (size := 3) hg (Nat.zero_le _) (Nat.le_refl _) (by unfold maxLen; omega) (by simp [trip_len])
  have hown : W.ownsRow 0 24 3 (.slice (some ⟨g, 0, none⟩) us.length us.length) us.length (trip us) := by simpa [List.take_of_length_le, trip_len] using hown
  refine ⟨us, Rc.own hown, InF.own hown (fun k e => .inr ?_), hl, fun i u x e1 e2 => (hch i u x e1 e2).mono (fun k hk => .inl hk)⟩
  have : g = k := by simpa [Value.ownBlock] using e
  exact this.symm

def c1A : Ch := oneC 0 97 98
def c2A : Ch := oneC 0 98 99
def c3A : Ch := oneC 0 98 100
theorem okA1 : OkC c1A := one_ok _ _ _ (by unfold i64b; omega) rfl rfl
theorem okA2 : OkC c2A := one_ok _ _ _ (by unfold i64b; omega) rfl rfl
theorem okA3 : OkC c3A := one_ok _ _ _ (by unfold i64b; omega) rfl rfl
theorem tA2 : (Tr.zero.add c1A).add c2A = ⟨[(0, [c1A]), (1, [c2A])], 2, false, []⟩ := by simp [Tr.add, Tr.end_, Tr.zero, c1A, c2A, oneC]
theorem tA1 : Tr.zero.add c1A = ⟨[(0, [c1A])], 1, false, []⟩ := by simp [Tr.add, Tr.end_, Tr.zero, c1A, oneC]
theorem tA3 : Tr.undo ⟨[(0, [c1A]), (1, [c2A])], 2, false, []⟩ = (⟨[(0, [c1A]), (1, [c2A])], 1, false, []⟩, some [oneC 0 99 98]) := by simp [Tr.undo, Tr.end_, Tr.up, Tr.chs, backC, turnC, c2A, oneC]
theorem tA4 : Tr.add ⟨[(0, [c1A]), (1, [c2A])], 1, false, []⟩ c3A = ⟨[(0, [c1A]), (1, [c2A]), (1, [c3A])], 3, false, []⟩ := by simp [Tr.add, Tr.end_, c3A, oneC]
theorem tA5 : Tr.goTo ⟨[(0, [c1A]), (1, [c2A]), (1, [c3A])], 3, false, []⟩ 2 = (⟨[(0, [c1A]), (1, [c2A]), (1, [c3A])], 2, false, []⟩, some [oneC 0 100 98, oneC 0 98 99]) := by
  have h : Tr.way ⟨[(0, [c1A]), (1, [c2A]), (1, [c3A])], 3, false, []⟩ 3 2 = [oneC 0 100 98, oneC 0 98 99] := by rfl
  simp [Tr.goTo, Tr.end_, h]
theorem dA : doC [[97], [98]] ⟨1, [[98]], [[120], [121]]⟩ = ([[97], [120], [121]], 0) := by rfl
end Go.Proofs.Ytalhiedbhcklgaa.U
