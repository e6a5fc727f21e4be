/-
  The contracts of 'textless' and of the iterator that it hands back.
-/
import Derived.Test.YthceooehndiglaaDoorCBehind
import Derived.Test.YthceooehndiglaaDoorCRange
import Derived.Test.YthceooehndiglaaDoorCTab
import Derived.Shelf.Abstract
import Derived.Shelf.RegionOpen
import Derived.OwnWalkIn
import Derived.TacticsInMore
import Derived.LoopNIn
import Derived.LoopIn
namespace Go.Proofs.YthceooehndiglaaDoor.U
open Go.RowKit Go.Shelf
set_option linter.unusedVariables false
set_option linter.unusedSimpArgs false
attribute [local go_sem] Oper.semAt_some

theorem set_at {W : World} {B : Nat} {cs : Array Value} {t : TypeId} {z : Nat × Nat} (h : W.heap[B]? = some (.cells cs t z)) (i : Nat) (v : Value) : (W.setCell ⟨B, i, none⟩ v).heap[B]? = some (.cells (cs.setIfInBounds i v) t z) := by
  obtain ⟨hlt, hk⟩ := Array.getElem?_eq_some_iff.1 h
  show (W.heap.modify B _)[B]? = _
  rw [Array.getElem?_eq_getElem (by rw [Array.size_modify]; exact hlt), Array.getElem_modify_self, hk]
  simp [Array.setIfInBounds]

theorem textless_any (a : Option Addr) (len cap : Nat) (t : Int) (w : World) :
    Calls Tryd.prog 31 #[.slice a len cap, .int .i64 t] w fun e w' =>
      e = .returned (.func (.func 34) #[] #[.pointer (some ⟨w.heap.size, 0, none⟩), .pointer (some ⟨w.heap.size + 1, 0, none⟩)]) ∧
      w' = (w.alloc (.cells #[.slice a len cap] 24)).alloc (.cells #[.int .i64 (tabM t)] 3) := by
  have hm : (tabM t : Int) = if t < 1 ∨ 64 < t then 8 else t := by unfold tabM; split <;> omega
  by_cases h1 : t < 1
  · rw [if_pos (.inl h1)] at hm
    rw [hm]; clear hm
    go_enter Tryd.func31, Tryd.ntmps31
    go_wp2
    go_ret
    exact ⟨rfl, rfl⟩
  by_cases h2 : 64 < t
  · rw [if_pos (.inr h2)] at hm
    rw [hm]; clear hm
    go_enter Tryd.func31, Tryd.ntmps31
    go_wp2
    go_ret
    exact ⟨rfl, rfl⟩
  · rw [if_neg (by omega)] at hm
    rw [hm]; clear hm
    go_enter Tryd.func31, Tryd.ntmps31
    go_wp2
    go_ret
    exact ⟨rfl, rfl⟩

/-- the number in the iterator's state: how far it has come -/
def toOf (B : Nat) (W : World) : Nat := match W.cell? ⟨B, 1, none⟩ with
  | some (.int _ q) => q.toNat
  | _ => 0
theorem toOf_eq {W B f t c d} (h : Ub W B f t c d) : toOf B W = t.toNat := by unfold toOf; rw [h.cells.2.1]

set_option maxRecDepth 100000 in
set_option maxHeartbeats 400000 in
theorem textless_iter (n : Nat) (a : Option Addr) (len cap : Nat) (line : List Int) (tab : Nat) (ht : 1 ≤ tab ∧ tab ≤ 64) (hlen : len ≤ 100000) (Bl Bt : Nat) (w₀ w : World) (hr : Rd .i32 w₀ a len cap line) (hg : Gl w₀) (hb : Below w₀.heap.size w₀ w)
    (E : Nat → Prop) (hE : ∀ k, E k → w₀.heap.size ≤ k ∧ k < w.heap.size) (hBl : w.cell? ⟨Bl, 0, none⟩ = some (.slice a len cap)) (hBt : w.cell? ⟨Bt, 0, none⟩ = some (.int .i64 tab)) (hEl : ¬ E Bl) (hEt : ¬ E Bt) :
    Iter Fence.wide n Tryd.prog 34 #[.pointer (some ⟨Bl, 0, none⟩), .pointer (some ⟨Bt, 0, none⟩)] (fun u : Un => #[unV u]) (units line tab) E w := by
  intro l J Jx hJ hJx hY h0
  have hll := hr.len
  have hBl2 := block_lt_of_cell hBl
  have hBt2 := block_lt_of_cell hBt
  have b0 : But w.heap.size E w (w.alloc (.cells #[.int .i64 0, .int .i64 0, .int .i64 0, .int .i64 0, .slice none 0 0] 39)) := (But.refl _ _ w).alloc (Nat.le_refl _) _
  have j0 := hJ _ _ _ h0 ((But.refl w.heap.size (· = w.heap.size) w).alloc (Nat.le_refl _) (.cells #[.int .i64 0, .int .i64 0, .int .i64 0, .int .i64 0, .slice none 0 0] 39))
  have u0 := Ub.new w 0 0 0 0
  have HJ := Lib.hid hJ; clear hJ
  have HY := Lib.hid hY; clear hY
  have HE := Lib.hid hE; clear hE
  have HR := Lib.hid hr; clear hr
  have HB := Lib.hid hb; clear hb
  have HG := Lib.hid hg; clear hg
  have HLL := Lib.hid hll; clear hll
  have HJX := Lib.hid hJx; clear hJx h0
  refine callsIn_of_wp Tryd.func34 rfl trivial ?_ rfl
  simp only [Tryd.ntmps34, List.size_toArray, List.length_cons, List.length_nil, Nat.reduceAdd, Nat.reduceSub, Array.replicate_succ, Array.replicate_zero, List.push_toArray, List.append_toArray, List.nil_append, List.cons_append]
  gi_wp2
  gi_loopw [] (fun wr => ∃ (pre : List Un) (v : Un), Ub wr w.heap.size v.fr v.to v.col v.wd ∧ Hid (unitsN line tab v.to = pre ∧ v.col + v.wd = endCol pre ∧ (v.to < len → joins line pre v.to = false)) ∧ v.to ≤ len ∧ J pre wr ∧ But w.heap.size E w wr)
    (fun wr => len - toOf w.heap.size wr)
  case atStart => exact ⟨[], ⟨0, 0, 0, 0⟩, u0, ⟨rfl, rfl, fun _ => by simp [joins, unitsN, openU_nil]⟩, by simp, j0, b0⟩
  case round =>
    obtain ⟨pre, v, hu, hpre, hv, hj, hbw⟩ := hrel
    clear u0 j0 b0
    have hBu := hu.lt
    obtain ⟨c0, c1, c2, c3, c4⟩ := hu.cells
    have f0 := hu.frozen 0
    have f1 := hu.frozen 1
    have f2 := hu.frozen 2
    have f3 := hu.frozen 3
    have f4 := hu.frozen 4
    have l1 := (hbw.cell (p := ⟨Bl, 0, none⟩) hBl2 hEl).trans hBl
    have l2 := (hbw.cell (p := ⟨Bt, 0, none⟩) hBt2 hEt).trans hBt
    have HPRE := hpre
    by_cases hlt : v.to < len
    · obtain ⟨p1, p2, p3⟩ := hpre.out
      have hbel : Below w₀.heap.size w₀ wr := HB.out.trans (hbw.below HB.out.size (fun k hk e => by have := (HE.out k e).1; omega))
      have hbeh := behind_any a len cap line tab ht v wr (HR.out.below hbel) hlt hlen (HG.out.below HG.out.lt hbel) (by rw [p1]; exact p3 hlt) (by rw [p1]; exact p2)
      unfold unV at hbeh
      have HBEH := Lib.hid hbeh
      have HU := Lib.hid hu
      have HJ0 := Lib.hid hj
      have HBW := Lib.hid hbw
      clear p1 p2 p3 hpre hbeh hu hj hbw hbel
      have hne : len - v.to ≠ 0 := by omega
      gi_wp2
      refine ⟨trivial, (fun h => by simp [Fence.wide] at h), ?_⟩
      refine (callsIn_wide.2 HBEH.out).mono ?_
      rintro e w2 ⟨⟨q1, q2, q3, q4⟩, he, hnx, hb2⟩
      dsimp only at he
      subst he
      have hu2 := HU.out.keep (hb2.block _ hBu)
      obtain ⟨d0, d1, d2, d3, d4⟩ := hu2.cells
      have g0 := hu2.frozen 0
      have g1 := hu2.frozen 1
      have g2 := hu2.frozen 2
      have g3 := hu2.frozen 3
      have g4 := hu2.frozen 4
      have HU2 := Lib.hid hu2
      have HNX := Lib.hid hnx
      have HB2 := Lib.hid hb2
      clear hu2 hnx hb2 HBEH
      obtain ⟨p1, p2, p3⟩ := HPRE.out
      have hpre' : pre ++ [⟨q1, q2, q3, q4⟩] <+: units line tab := by
        have h := units_prefix (line := line) (tab := tab) (i := q2) HNX.out.2.2.1 HNX.out.2.2.2
        have e := HNX.out.1
        simp only at e
        rwa [e, p1] at h
      obtain ⟨W5, hW5⟩ : ∃ W5, (((((w2.setCell ⟨w.heap.size, 0, none⟩ (.int .i64 q1)).setCell ⟨w.heap.size, 1, none⟩ (.int .i64 q2)).setCell ⟨w.heap.size, 2, none⟩ (.int .i64 q3)).setCell ⟨w.heap.size, 3, none⟩ (.int .i64 q4)).setCell ⟨w.heap.size, 4, none⟩ (.slice none 0 0)) = W5 := ⟨_, rfl⟩
      have hu5 : Ub W5 w.heap.size q1 q2 q3 q4 := by
        have h := set_at (set_at (set_at (set_at (set_at HU2.out 0 (.int .i64 q1)) 1 (.int .i64 q2)) 2 (.int .i64 q3)) 3 (.int .i64 q4)) 4 (.slice none 0 0)
        rw [hW5] at h
        exact h
      have hb5 : But wr.heap.size (· = w.heap.size) wr W5 := by
        rw [← hW5]
        have sc : ∀ {b : World} (i : Nat) (x : Value), But wr.heap.size (· = w.heap.size) wr b → But wr.heap.size (· = w.heap.size) wr (b.setCell ⟨w.heap.size, i, none⟩ x) := fun i x h => h.setCell (p := ⟨w.heap.size, i, none⟩) (.inr rfl) x
        exact sc _ _ (sc _ _ (sc _ _ (sc _ _ (sc _ _ (But.of_below HB2.out)))))
      have hj5 := HJ.out _ _ _ HJ0.out hb5
      have hs5 : w.heap.size < W5.heap.size := hu5.lt
      obtain ⟨fn, tmps, assign, body, hy, hR⟩ := HY.out pre ⟨q1, q2, q3, q4⟩ W5 hs5 hj5 hpre'
      unfold unV at hy
      dsimp only at hy
      rw [← hW5] at hy
      clear p1 p2 p3
      have HR5 := Lib.hid hR
      have HU5 := Lib.hid hu5
      have HB5 := Lib.hid hb5
      have HP5 := Lib.hid hpre'
      have HW5 := Lib.hid hW5
      clear hR hu5 hb5 hj5 hpre' hW5
      gi_wp2_with fail
      refine ⟨(fun h => by simp [Fence.wide] at h), ?_⟩
      rw [HW5.out]
      refine HR5.out.mono ?_
      rintro e W3 (⟨rfl, hj3, hb3⟩ | ⟨rfl, hjx3⟩)
      · have hu3 := HU5.out.keep (hb3.block w.heap.size (by omega) (fun e => by have := (HE.out _ e).2; omega))
        gi_wp2_with fail
        go_roundw
        case rel =>
          refine ⟨pre ++ [⟨q1, q2, q3, q4⟩], ⟨q1, q2, q3, q4⟩, hu3, ⟨by rw [show unitsN line tab q2 = _ from HNX.out.1, HPRE.out.1], by rw [endCol_snoc], ?_⟩, ?_, hj3, ?_⟩
          · intro h
            have h2 := HNX.out.2.2.2
            have e := HNX.out.1
            simp only at e h h2
            rw [e, HPRE.out.1] at h2
            exact h2 (by rw [HLL.out]; exact h)
          · have := HNX.out.2.2.1; rw [HLL.out] at this; exact this
          · refine HBW.out.trans ((HB5.out.mono (by omega) ?_).trans (hb3.mono (by omega) (fun _ _ h => h)))
            intro k hk e
            omega
        case measure =>
          rw [toOf_eq hu3, toOf_eq HU.out]
          have h1 := HNX.out.2.1
          have h2 := HNX.out.2.2.1
          rw [HLL.out] at h2
          simp only at h1 h2
          simp
          omega
      · gi_wp2_with fail
        refine bodyPost_ret (results_none rfl _ _ _) rfl ?_
        exact ⟨⟨_, rfl⟩, .inr ⟨_, HP5.out, hjx3⟩⟩
    · have hve : v.to = len := by omega
      have HU := Lib.hid hu
      have HJ0 := Lib.hid hj
      clear hu hj
      gi_wp2
      go_end0
      obtain ⟨p1, p2, p3⟩ := HPRE.out
      refine ⟨⟨_, rfl⟩, .inl ?_⟩
      have e : units line tab = pre := by
        unfold units
        rw [HLL.out, ← hve]; exact p1
      rw [e]; exact HJ0.out
end Go.Proofs.YthceooehndiglaaDoor.U
