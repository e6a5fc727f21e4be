/-
  slices.Grow, slices.Concat of three: at rows of rows of runes.
-/
import Derived.Test.YtalhiedbhcklgaaVEq
import Derived.Lib.AppendZeros
namespace Go.Proofs.Ytalhiedbhcklgaa.U
open Go.RowKit
set_option linter.unusedVariables false
set_option linter.unusedSimpArgs false
set_option maxRecDepth 100000

/-- append of what can be read -/
theorem wpList_appRc {P : Program} {w : World} {ops : Array Oper} {rest : List Oper} {o : Oper} {a : Act} {Q : Exit → Act → World → Prop} (hgd : o.guard = none) (s x : Operand) (t : TypeId)
    (ho : o.op = .call { callee := .builtin .append, args := #[s, x], argTypes := #[t, t] })
    (base : Nat) (e : TypeId) (i : TypeInfo) (z : Value) (bytes : Nat) (ht : P.underlying t = some (.slice e)) (hi : P.info? e = some i) (hz : i.zero = some z)
    (hsize : i.size = 1) (hby : i.bytes = bytes) (hzs : z.cells.size = 1)
    (v : Value) (n : Nat) (xs : List Value) (hs : a.eval s = v) (hown : w.ownsRow base e 1 v n xs)
    (ad : Option Addr) (m c : Nat) (ys : List Value) (hx : a.eval x = .slice ad m c) (hrd : Rc w ad m c 1 ys) (h1 : ∀ u ∈ ys, u.oneCell' = true)
    (h63 : n + m ≤ maxLen) (hbytes : (n + m) * bytes ≤ 140737488355328) (hbase : base ≤ w.heap.size)
    (h : ∀ v' w', w'.ownsRow base e 1 v' (n + m) (xs ++ ys) → Below base w w' → wpList P ops Q rest (a.put o.dst v') w') : wpList P ops Q (o :: rest) a w :=
  wpList_app hgd s x t ho base e i z bytes ht hi hz hsize hby hzs v n xs hs hown ad m c ys hx (by have := hrd.1; omega) hrd.2.2.2.1 hrd.2.1 (fun hp => hrd.src hp) h1 h63 hbytes hbase h

theorem growS_0 (w : World) :
    Calls Try.prog 51 #[.slice none 0 0, .int .i64 0] w fun e w' => e = .returned (.slice none 0 0) ∧ w = w' := by
  go_enter Try.func51, Try.ntmps51
  go_wp2
  go_ret
  exact ⟨rfl, rfl⟩
theorem growS_pos (n : Nat) (w : World) (h0 : 0 < n) (hn : n ≤ 1099511627776) :
    Calls Try.prog 51 #[.slice none 0 0, .int .i64 n] w fun e w' => ∃ v, e = .returned v ∧ w'.ownsRow w.heap.size 52 1 v 0 [] ∧ Below w.heap.size w w' := by
  obtain ⟨i0, hi, hz0, hz1, hz2⟩ := info_parts infoS
  have hpos : (0 : Int) < n := by omega
  have hrun := Lib.run_append_nil_zeros (P := Try.prog) w 22 3 22 52 i0 (.slice none 0 0) .i64 .i64 Try.underlying22 Try.underlying3 hi hz0 n h0 (by rw [hz1]; decide) (by omega) (by rw [hz2]; omega)
  have HR := Lib.hid hrun; clear hrun
  go_enter Try.func51, Try.ntmps51
  go_wp2_with (at_builtin; go_must (refine Lib.wpList_append_run _ rfl _ _ _ _ rfl _ _ rfl rfl _ _ HR.out ?_))
  go_ret
  refine ⟨_, rfl, World.ownsRow_made w.drew _ _ (Nat.le_refl _) (grownCap_le_maxLen _ _ _ _ (by unfold maxLen; omega)) ?_, ((Below.refl _ _).drew.alloc (by simp) _)⟩
  have hge := grownCap_ge w n 0 52
  simp only [Array.size_append, size_zeroCells]
  have h1 : (#[.slice none 0 0] : Array Value).size = 1 := rfl
  simp only [Value.cells, h1]; omega
theorem growS_any (z : Int) (n : Nat) (w : World) (hz : z = n) (hn : n ≤ 1099511627776) :
    Calls Try.prog 51 #[.slice none 0 0, .int .i64 z] w fun e w' => ∃ v, e = .returned v ∧ w'.ownsRow w.heap.size 52 1 v 0 [] ∧ Below w.heap.size w w' := by
  subst hz
  by_cases h0 : n = 0
  · subst h0
    exact (growS_0 w).mono fun e w' ⟨h1, h2⟩ => ⟨_, h1, by subst h2; exact World.ownsRow_nil _ _ _ _, by subst h2; exact Below.refl _ _⟩
  · exact growS_pos n w (by omega) hn

set_option maxHeartbeats 4000000 in
theorem concat3 (bp : Nat) (a1 a2 a3 : Option Addr) (n1 c1 n2 c2 n3 c3 : Nat) (xs ys zs : List Value) (w : World)
    (hp0 : w.cell? ⟨bp, 0, none⟩ = some (.slice a1 n1 c1)) (hp1 : w.cell? ⟨bp, 1, none⟩ = some (.slice a2 n2 c2)) (hp2 : w.cell? ⟨bp, 2, none⟩ = some (.slice a3 n3 c3))
    (h1 : Rc w a1 n1 c1 1 xs) (h2 : Rc w a2 n2 c2 1 ys) (h3 : Rc w a3 n3 c3 1 zs) (o1 : ∀ u ∈ xs, u.oneCell' = true) (o2 : ∀ u ∈ ys, u.oneCell' = true) (o3 : ∀ u ∈ zs, u.oneCell' = true) (hbig : n1 + n2 + n3 ≤ 1099511627776) :
    Calls Try.prog 41 #[.slice (some ⟨bp, 0, none⟩) 3 3] w fun e w' => ∃ a c, e = .returned (.slice a (n1 + n2 + n3) c) ∧
      w'.ownsRow w.heap.size 52 1 (.slice a (n1 + n2 + n3) c) (n1 + n2 + n3) (xs ++ ys ++ zs) ∧ Below w.heap.size w w' := by
  obtain ⟨i0, hi, hz0, hz1, hz2⟩ := info_parts infoS
  have hbp : bp < w.heap.size := block_lt_of_cell hp0
  have O1 := Lib.hid o1
  have O2 := Lib.hid o2
  have O3 := Lib.hid o3
  clear o1 o2 o3
  go_enter Try.func41, Try.ntmps41
  go_wp2_with fail
  go_loop [3, 11] (fun s i => ∃ k : Nat, k ≤ 3 ∧ i = .int .i64 k ∧ s = .int .i64 (if k = 0 then 0 else if k = 1 then n1 else if k = 2 then n1 + n2 else n1 + n2 + n3)) (fun _ i => 3 - (intOf i).toNat)
  case atStart => exact ⟨0, by omega, rfl, rfl⟩
  case round =>
    obtain ⟨k, hk, rfl, rfl⟩ := hrel
    by_cases k0 : k = 0
    · subst k0
      go_wp2_with fail
      go_round
      case rel => exact ⟨1, by omega, rfl, rfl⟩
      case measure => simp [intOf]
    by_cases k1 : k = 1
    · subst k1
      go_wp2_with fail
      go_round
      case rel => exact ⟨2, by omega, rfl, rfl⟩
      case measure => simp [intOf]
    by_cases k2 : k = 2
    · subst k2
      go_wp2_with fail
      go_round
      case rel => exact ⟨3, by omega, rfl, rfl⟩
      case measure => simp [intOf]
    · obtain rfl : k = 3 := by omega
      clear k0 k1 k2
      go_wp2_with fail
      refine (growS_any _ (n1 + n2 + n3) _ (by simp) hbig).mono ?_
      rintro e w1 ⟨v1, rfl, hown1, hb1⟩
      have hB := hb1.size
      go_wp2_with fail
      go_loopw [6, 27] (fun v i wr => ∃ k : Nat, k ≤ 3 ∧ i = .int .i64 k ∧ Hid (wr.ownsRow w.heap.size 52 1 v (if k = 0 then 0 else if k = 1 then n1 else if k = 2 then n1 + n2 else n1 + n2 + n3) (if k = 0 then [] else if k = 1 then xs else if k = 2 then xs ++ ys else xs ++ ys ++ zs)) ∧ Below w.heap.size w wr) (fun _ i _ => 3 - (intOf i).toNat)
      case atStart => exact ⟨0, by omega, rfl, hown1, hb1⟩
      case round =>
        obtain ⟨k, hk, rfl, ho, hbl⟩ := hrel
        have hp0' := (hbl.cell (p := ⟨bp, 0, none⟩) hbp).trans hp0
        have hp1' := (hbl.cell (p := ⟨bp, 1, none⟩) hbp).trans hp1
        have hp2' := (hbl.cell (p := ⟨bp, 2, none⟩) hbp).trans hp2
        have H1 := Lib.hid (h1.below hbl)
        have H2 := Lib.hid (h2.below hbl)
        have H3 := Lib.hid (h3.below hbl)
        have hsz := hbl.size
        by_cases k0 : k = 0
        · subst k0
          have ho' := ho.out
          simp only [↓reduceIte] at ho'
          clear ho
          go_wp2_with (at_builtin; go_must (refine wpList_appRc rfl _ _ 22 rfl w.heap.size 52 i0 (.slice none 0 0) 24 Try.underlying22 hi hz0 hz1 hz2 rfl _ _ _ rfl ho' _ _ _ xs rfl H1.out O1.out ?d1 ?d2 ?d3 ?_))
          case d1 => unfold maxLen; omega
          case d2 => omega
          case d3 => omega
          intro v2 w2 ho2 hb2
          go_wp2
          go_roundw
          case rel => exact ⟨1, by omega, rfl, (by show World.ownsRow _ _ _ _ _ _ _; simpa using ho2), hbl.trans hb2⟩
          case measure => simp [intOf]
        by_cases k1 : k = 1
        · subst k1
          have ho' := ho.out
          simp only [↓reduceIte, Nat.one_ne_zero] at ho'
          clear ho
          go_wp2_with (at_builtin; go_must (refine wpList_appRc rfl _ _ 22 rfl w.heap.size 52 i0 (.slice none 0 0) 24 Try.underlying22 hi hz0 hz1 hz2 rfl _ _ _ rfl ho' _ _ _ ys rfl H2.out O2.out ?d1 ?d2 ?d3 ?_))
          case d1 => unfold maxLen; omega
          case d2 => omega
          case d3 => omega
          intro v2 w2 ho2 hb2
          go_wp2
          go_roundw
          case rel => exact ⟨2, by omega, rfl, (by show World.ownsRow _ _ _ _ _ _ _; simpa using ho2), hbl.trans hb2⟩
          case measure => simp [intOf]
        by_cases k2 : k = 2
        · subst k2
          have ho' := ho.out
          simp only [↓reduceIte, show ¬ (2 = 0) from by decide, show ¬ (2 = 1) from by decide] at ho'
          clear ho
          go_wp2_with (at_builtin; go_must (refine wpList_appRc rfl _ _ 22 rfl w.heap.size 52 i0 (.slice none 0 0) 24 Try.underlying22 hi hz0 hz1 hz2 rfl _ _ _ rfl ho' _ _ _ zs rfl H3.out O3.out ?d1 ?d2 ?d3 ?_))
          case d1 => unfold maxLen; omega
          case d2 => omega
          case d3 => omega
          intro v2 w2 ho2 hb2
          go_wp2
          go_roundw
          case rel => exact ⟨3, by omega, rfl, (by show World.ownsRow _ _ _ _ _ _ _; simpa using ho2), hbl.trans hb2⟩
          case measure => simp [intOf]
        obtain rfl : k = 3 := by omega
        clear k0 k1 k2
        have ho' := ho.out
        simp only [↓reduceIte, show ¬ (3 = 0) from by decide, show ¬ (3 = 1) from by decide, show ¬ (3 = 2) from by decide] at ho'
        clear ho
        obtain ⟨a', c', rfl⟩ := own_slice ho'
        have HO := Lib.hid ho'
        clear ho'
        go_wp2
        go_ret
        exact ⟨_, _, rfl, HO.out, hbl⟩
end Go.Proofs.Ytalhiedbhcklgaa.U
