/-
  Steps by words: w, W. (MADE by wip/tools/gen_onext.py.)
-/
import Derived.Test.YtikdojebnbmpoaaOFar
import Derived.Deep.RegionHeld3
namespace Go.Proofs.Ytikdojebnbmpoaa.U
open Go.RowKit
set_option linter.unusedVariables false
set_option linter.unusedSimpArgs false
set_option maxRecDepth 100000

section
variable {P : Program} {ops : Array Oper} {Q : Exit → Act → World → Prop} {md : Region.Mode} {S : World → Prop}
theorem opCall (i : Nat) (d : Option Tmp) {oi : Oper} {f : FuncId} {args : Array Value} {N : Act → World → Prop} {a : Act} {w : World} (hi : ops[i]? = some oi) (hd : oi.dst = d)
    (hw : Region.wanted oi (yielded ops a.tmps) = true) (hrun : (execOp a.eval oi).run P w = .ok (.enter f args) w)
    (h : Calls P f args w fun e w' => ∃ v, e = .returned v ∧ N (a.put d v) w') : wpOp P ops Q i N a w := by
  subst hd
  unfold wpOp
  simp only [hi, hw, if_true]
  left
  unfold Oper.wp
  rw [hrun, Oper.upon_enter]
  refine h.mono ?_
  rintro e w' ⟨v, rfl, h2⟩
  exact h2
theorem opRun (i : Nat) (d : Option Tmp) {oi : Oper} {v : Value} {N : Act → World → Prop} {a : Act} {w w' : World} (hi : ops[i]? = some oi) (hd : oi.dst = d)
    (hw : Region.wanted oi (yielded ops a.tmps) = true) (hrun : (execOp a.eval oi).run P w = .ok (.value v) w') (h : N (a.put d v) w') : wpOp P ops Q i N a w := by
  subst hd
  unfold wpOp
  simp only [hi, hw, if_true]
  left
  unfold Oper.wp
  rw [hrun, Oper.upon_value]
  exact h
theorem any1 (i : Nat) {fuel : Nat} {listed : Array Bool} {a : Act} {w : World} (hr : Region.ready md ops listed = [i])
    (h1 : wpOp P ops Q i (fun a' w' => S w' ∧ wpAnyH P md ops Q S fuel (listed.setIfInBounds i true) a' w') a w) : wpAnyH P md ops Q S (fuel + 1) listed a w :=
  wpAnyH_all hr (by simp) (fun j hj => by rw [List.mem_singleton] at hj; subst hj; exact h1)
theorem any2 (i j : Nat) {fuel : Nat} {listed : Array Bool} {a : Act} {w : World} (hr : Region.ready md ops listed = [i, j])
    (h1 : wpOp P ops Q i (fun a' w' => S w' ∧ wpAnyH P md ops Q S fuel (listed.setIfInBounds i true) a' w') a w)
    (h2 : wpOp P ops Q j (fun a' w' => S w' ∧ wpAnyH P md ops Q S fuel (listed.setIfInBounds j true) a' w') a w) : wpAnyH P md ops Q S (fuel + 1) listed a w :=
  wpAnyH_all hr (by simp) (fun x hx => by
    rcases List.mem_cons.1 hx with rfl | hx
    · exact h1
    · rw [List.mem_singleton] at hx; subst hx; exact h2)
theorem any3 (i j k : Nat) {fuel : Nat} {listed : Array Bool} {a : Act} {w : World} (hr : Region.ready md ops listed = [i, j, k])
    (h1 : wpOp P ops Q i (fun a' w' => S w' ∧ wpAnyH P md ops Q S fuel (listed.setIfInBounds i true) a' w') a w)
    (h2 : wpOp P ops Q j (fun a' w' => S w' ∧ wpAnyH P md ops Q S fuel (listed.setIfInBounds j true) a' w') a w)
    (h3 : wpOp P ops Q k (fun a' w' => S w' ∧ wpAnyH P md ops Q S fuel (listed.setIfInBounds k true) a' w') a w) : wpAnyH P md ops Q S (fuel + 1) listed a w :=
  wpAnyH_all hr (by simp) (fun x hx => by
    rcases List.mem_cons.1 hx with rfl | hx
    · exact h1
    · rcases List.mem_cons.1 hx with rfl | hx
      · exact h2
      · rw [List.mem_singleton] at hx; subst hx; exact h3)
end
theorem AkS.other {w W : World} {A : Obj} (h : AkS w A W) {g : Nat} (hg : w.heap.size + 1 < g) (i : Nat) (v : Value) : AkS w A (W.setCell ⟨g, i, none⟩ v) := by
  obtain ⟨h1, h2, v0, v1, h3⟩ := h
  have n0 : ¬ w.heap.size = g := by omega
  have n1 : ¬ w.heap.size + 1 = g := by omega
  exact ⟨setCell_below h1 _ _ _ (by omega), (Below.heap_setCell _ _ _ _ n0).trans h2, v0, v1, (Below.heap_setCell _ _ _ _ n1).trans h3⟩
theorem AkS.blw {w W : World} {A : Obj} (h : AkS w A W) : Below w.heap.size w W := h.1
theorem AkS.room {w W : World} {A : Obj} (h : AkS w A W) : w.heap.size + 1 < W.heap.size := by
  obtain ⟨h1, h2, v0, v1, h3⟩ := h
  exact (Array.getElem?_eq_some_iff.1 h3).1
/-- where w leads, for an operator too: began and led -/
def nwP (L : List (List Int)) (op : Bool) (y : Pl × Pl) : Pl := if op = true ∧ y.1.1 ≠ y.2.1 then (y.2.1, (lnL L y.2.1).length) else y.1
/-- a place's box, by its cells -/
def Bx (W : World) (g : Nat) (x y : Value) : Prop := W.heap[g]? = some (.cells #[x, y] 24 (0, 0))
theorem Bx.set1 {W : World} {g : Nat} {x y v : Value} (h : Bx W g x y) : Bx (W.setCell ⟨g, 1, none⟩ v) g x v := heap_set h 1 v
theorem Bx.set0 {W : World} {g : Nat} {x y v : Value} (h : Bx W g x y) : Bx (W.setCell ⟨g, 0, none⟩ v) g v y := heap_set h 0 v
theorem Bx.other {W : World} {g k i : Nat} {x y v : Value} (h : Bx W g x y) (hn : ¬ g = k) : Bx (W.setCell ⟨k, i, none⟩ v) g x y := (Below.heap_setCell _ _ _ _ hn).trans h
theorem Bx.lt {W : World} {g : Nat} {x y : Value} (h : Bx W g x y) : g < W.heap.size := (Array.getElem?_eq_some_iff.1 h).1
theorem Bx.below {W W2 : World} {g : Nat} {x y : Value} (h : Bx W g x y) (hb : Below W.heap.size W W2) : Bx W2 g x y := (hb.block _ h.lt).trans h
theorem Bx.alloc {W : World} {g : Nat} {x y : Value} {o : Obj} (h : Bx W g x y) : Bx (W.alloc o) g x y := h.below (bal W o)
theorem Bx.drew {W : World} {g : Nat} {x y : Value} (h : Bx W g x y) : Bx W.drew g x y := h
theorem Bx.new (W : World) (x y : Value) : Bx (W.alloc (.cells #[x, y] 24 (0, 0))) W.heap.size x y := heap_alloc_new W _
set_option maxHeartbeats 8000000 in
theorem nextWord_any (F : Nat → Prop) (a : Option Addr) (n c l q : Nat) (t : Nat) (key cnt arg want : Int) (op : Bool) (L : List (List Int)) (w : World) (h : RdL F w a n c L) (hp : okP L (l, q)) (ht : (t : Int) ≤ 9223372036854775807) (ht1 : 1 ≤ t) (hz : sizeN (lens L) ≤ 262144) (big : Bool) (hk : decide (key < 97) = big) :
    Calls Try.prog 29 #[askL a n c l q (t : Nat) key cnt arg want op] w fun e w' => e = .returned (.tuple #[plV (nwP L op (stepsP (behindP L (if big then 1 else 0)) t (l, q) (l, q))), .bool (movedP (behindP L (if big then 1 else 0)) (l, q))]) ∧ Below w.heap.size w w' := by
  have hL : L ≠ [] := by rintro rfl; exact absurd hp.1 (by simp)
  have hg : ∀ p : Pl, okP L p → okP L (behindP L (if big then 1 else 0) p) := fun p _ => places_mem.1 (behindP_mem hL _ p)
  have HWO := Lib.hid (fun (W : World) => words_any a n c l q t key cnt arg want op 50 big W hk)
  have HFA : Hid (∀ (b1 b2 : Nat) (t1 t2 : TypeId) (W : World), Below w.heap.size w W → W.heap[b1]? = some (.cells #[.func (.func 50) #[] #[]] t1 (0, 0)) → W.heap[b2]? = some (.cells #[.bool big] t2 (0, 0)) →
      Calls Try.prog 48 #[askL a n c l q (t : Nat) key cnt arg want op, .func (.func 63) #[] #[.pointer (some ⟨b1, 0, none⟩), .pointer (some ⟨b2, 0, none⟩)]] W fun e w' => e = .returned (.tuple #[plV (stepsP (behindP L (if big then 1 else 0)) t (l, q) (l, q)).2, plV (stepsP (behindP L (if big then 1 else 0)) t (l, q) (l, q)).1, .bool (movedP (behindP L (if big then 1 else 0)) (l, q))]) ∧ Below W.heap.size W w') := by
    intro b1 b2 t1 t2 W hW h1 h2
    refine stepsB_any a n c l q t key cnt arg want op L 63 b1 b2 (behindP L (if big then 1 else 0)) W hp ht ht1 hg (fun _ _ => rfl) (fun p1 p2 W2 hok hW2 => ?_)
    have hcl := fun (W3 : World) (hW3 : Below W2.heap.size W2 W3) => wnext_any F a n c L ⟨(p1 : Nat), (p2 : Nat)⟩ big W3 (h.below (btr (btr hW hW2) hW3)) (okP_i64z hz hok) hz
    rw [clipP_id hok] at hcl
    obtain ⟨⟨r1, r2⟩, hr⟩ : ∃ y, (behindP L (if big then 1 else 0)) (p1, p2) = y := ⟨_, rfl⟩
    rw [hr] at hcl ⊢
    exact words1_any a n c 50 big p1 p2 r1 r2 b1 b2 t1 t2 W2 ((hW2.block _ (Array.getElem?_eq_some_iff.1 h1).1).trans h1) ((hW2.block _ (Array.getElem?_eq_some_iff.1 h2).1).trans h2) (fun _ _ => rfl) hcl
  have hok2 := stepsP_ok hg t (l, q) (l, q) hp hp
  obtain ⟨⟨⟨r1, r2⟩, ⟨s1, s2⟩⟩, hr⟩ : ∃ y, (stepsP (behindP L (if big then 1 else 0)) t (l, q) (l, q)) = y := ⟨_, rfl⟩
  obtain ⟨mv, hmv⟩ : ∃ b, movedP (behindP L (if big then 1 else 0)) (l, q) = b := ⟨_, rfl⟩
  rw [hr, hmv] at HFA
  rw [hr, hmv]
  rw [hr] at hok2
  unfold plV at HFA
  have hs1 : s1 < L.length := hok2.2.1
  have hln : L.length = n := h.len
  have hsm := h.small
  have hx : L[s1]? = some (lnL L s1) := by unfold lnL; rw [List.getD_eq_getElem?_getD, List.getElem?_eq_getElem (by omega)]; rfl
  obtain ⟨b, off, ra, rc, rfl, hbl, -, e0, hrd, -, -⟩ := h.get (Below.refl _ w) hx
  have hms := hrd.small
  obtain ⟨m, hm⟩ : ∃ m, (lnL L s1).length = m := ⟨_, rfl⟩
  rw [hm] at e0 hms
  have HM := Lib.hid hm
  have hs1n : s1 < n := by omega
  clear hr hmv h hp hz hL hk hg hok2 hx hrd hm hs1 hln
  obtain ⟨w1, hw1, ha1⟩ := lead_start w (askO (some ⟨b, off, none⟩) n c l q (t : Nat) key cnt arg want op)
  have HW1 := Lib.hid hw1
  have HA1 := Lib.hid ha1
  clear hw1 ha1
  go_enter Try.func29, Try.ntmps29
  go_upto_region 1 with fail
  rw [HW1.out]
  go_cut [4, 5, 6] from 7 (fun v4 v5 v6 wx => ∃ g4 g5 : Nat, v4 = .pointer (some ⟨g4, 0, none⟩) ∧ v5 = .pointer (some ⟨g5, 0, none⟩) ∧ v6 = .bool mv ∧ Hid (¬ g4 = g5 ∧ w.heap.size + 1 < g4 ∧ w.heap.size + 1 < g5) ∧ Hid (AkS w (askO (some ⟨b, off, none⟩) n c l q (t : Nat) key cnt arg want op) wx) ∧ Hid (Bx wx g4 (.int .i64 (s1 : Nat)) (.int .i64 (s2 : Nat))) ∧ Hid (Bx wx g5 (.int .i64 (r1 : Nat)) (.int .i64 (r2 : Nat))))
  case first =>
    refine wp_region_held (S := AkS w (askO (some ⟨b, off, none⟩) n c l q (t : Nat) key cnt arg want op)) (by kernel_rfl) ?_
    change wpAnyH _ _ _ _ _ _ _ _ (World.drew _)
    have hHeld : (AkS w (askO (some ⟨b, off, none⟩) n c l q (t : Nat) key cnt arg want op)) (World.drew w1) := HA1.out.drew
    obtain ⟨wd, hwd⟩ : ∃ x, World.drew w1 = x := ⟨_, rfl⟩
    rw [hwd] at hHeld ⊢
    clear hwd
    refine takeH 0 (some 8) (v := ?_) rfl rfl (by kernel_rfl) (by kernel_rfl) (by kernel_rfl) (fun _ _ _ h => h) (Or.inl ⟨by kernel_rfl, ?_⟩) hHeld ?_
    rotate_left
    · intro w' hSw
      obtain ⟨s0, s1', s2', s3, s4, s5, s6, s7, s8⟩ := hSw.cells
      go_simp
      try with_reducible rfl
    (try simp only [Act.put, List.setIfInBounds_toArray, List.set_cons_zero, List.set_cons_succ])
    refine takeH 1 (some 9) (v := ?_) rfl rfl (by kernel_rfl) (by kernel_rfl) (by kernel_rfl) (fun _ _ _ h => h) (Or.inl ⟨by kernel_rfl, ?_⟩) hHeld ?_
    rotate_left
    · intro w' hSw
      obtain ⟨s0, s1', s2', s3, s4, s5, s6, s7, s8⟩ := hSw.cells
      go_simp
      try with_reducible rfl
    (try simp only [Act.put, List.setIfInBounds_toArray, List.set_cons_zero, List.set_cons_succ])
    refine any3 2 8 9 (by kernel_rfl) ?_ ?_ ?_
    · refine opCall 2 (some 10) (f := 49) (args := ?_) rfl rfl (by kernel_rfl) ?_ ?_
      rotate_left
      · go_simp
        try with_reducible rfl
      refine (HWO.out _).mono ?_
      rintro e v1x ⟨b1, b2, t1, t2, rfl, hb1, xa1, xb1⟩
      have hs1 := hHeld.below hb1
      refine ⟨_, rfl, hs1, ?_⟩
      (try simp only [Act.put, List.setIfInBounds_toArray, List.set_cons_zero, List.set_cons_succ])
      refine any3 3 8 9 (by kernel_rfl) ?_ ?_ ?_
      · refine opCall 3 (some 11) (f := 48) (args := ?_) rfl rfl (by kernel_rfl) ?_ ?_
        rotate_left
        · go_simp
          try with_reducible rfl
        refine (HFA.out _ _ _ _ _ hs1.1 xa1 xb1).mono ?_
        rintro e v2x ⟨rfl, hb2⟩
        have hs2 := hs1.below hb2
        refine ⟨_, rfl, hs2, ?_⟩
        (try simp only [Act.put, List.setIfInBounds_toArray, List.set_cons_zero, List.set_cons_succ])
        refine takeH 4 (some 7) (v := ?_) rfl rfl (by kernel_rfl) (by kernel_rfl) (by kernel_rfl) (fun _ _ _ h => h) (Or.inl ⟨by kernel_rfl, ?_⟩) hs2 ?_
        rotate_left
        · intro w' hSw
          obtain ⟨s0, s1', s2', s3, s4, s5, s6, s7, s8⟩ := hSw.cells
          go_simp
          try with_reducible rfl
        (try simp only [Act.put, List.setIfInBounds_toArray, List.set_cons_zero, List.set_cons_succ])
        refine takeH 5 (some 12) (v := ?_) rfl rfl (by kernel_rfl) (by kernel_rfl) (by kernel_rfl) (fun _ _ _ h => h) (Or.inl ⟨by kernel_rfl, ?_⟩) hs2 ?_
        rotate_left
        · intro w' hSw
          obtain ⟨s0, s1', s2', s3, s4, s5, s6, s7, s8⟩ := hSw.cells
          go_simp
          try with_reducible rfl
        (try simp only [Act.put, List.setIfInBounds_toArray, List.set_cons_zero, List.set_cons_succ])
        refine takeH 6 (some 13) (v := ?_) rfl rfl (by kernel_rfl) (by kernel_rfl) (by kernel_rfl) (fun _ _ _ h => h) (Or.inl ⟨by kernel_rfl, ?_⟩) hs2 ?_
        rotate_left
        · intro w' hSw
          obtain ⟨s0, s1', s2', s3, s4, s5, s6, s7, s8⟩ := hSw.cells
          go_simp
          try with_reducible rfl
        (try simp only [Act.put, List.setIfInBounds_toArray, List.set_cons_zero, List.set_cons_succ])
        refine takeH 7 (some 14) (v := ?_) rfl rfl (by kernel_rfl) (by kernel_rfl) (by kernel_rfl) (fun _ _ _ h => h) (Or.inl ⟨by kernel_rfl, ?_⟩) hs2 ?_
        rotate_left
        · intro w' hSw
          obtain ⟨s0, s1', s2', s3, s4, s5, s6, s7, s8⟩ := hSw.cells
          go_simp
          try with_reducible rfl
        (try simp only [Act.put, List.setIfInBounds_toArray, List.set_cons_zero, List.set_cons_succ])
        refine any2 8 9 (by kernel_rfl) ?_ ?_
        · obtain ⟨v3x, hw3⟩ : ∃ x, v2x.alloc (.cells #[.int .i64 0, .int .i64 0] 24) = x := ⟨_, rfl⟩
          have hb3 : Below v2x.heap.size v2x v3x := by rw [← hw3]; exact bal _ _
          have hn3 : Bx v3x v2x.heap.size (.int .i64 0) (.int .i64 0) := by rw [← hw3]; exact Bx.new v2x _ _
          have hs3 := hs2.below hb3
          have lt3 : w.heap.size + 1 < v2x.heap.size := hs2.room
          refine opRun 8 (some 4) (v := .pointer (some ⟨v2x.heap.size, 0, none⟩)) (w' := v3x) rfl rfl (by kernel_rfl) ?_ ⟨hs3, ?_⟩
          · rw [← hw3]; go_simp
            try rfl
          clear hw3
          (try simp only [Act.put, List.setIfInBounds_toArray, List.set_cons_zero, List.set_cons_succ])
          refine any1 9 (by kernel_rfl) ?_
          · obtain ⟨v4x, hw4⟩ : ∃ x, v3x.alloc (.cells #[.int .i64 0, .int .i64 0] 24) = x := ⟨_, rfl⟩
            have hb4 : Below v3x.heap.size v3x v4x := by rw [← hw4]; exact bal _ _
            have hn4 : Bx v4x v3x.heap.size (.int .i64 0) (.int .i64 0) := by rw [← hw4]; exact Bx.new v3x _ _
            have hs4 := hs3.below hb4
            have lt4 : w.heap.size + 1 < v3x.heap.size := hs3.room
            refine opRun 9 (some 5) (v := .pointer (some ⟨v3x.heap.size, 0, none⟩)) (w' := v4x) rfl rfl (by kernel_rfl) ?_ ⟨hs4, ?_⟩
            · rw [← hw4]; go_simp
              try rfl
            clear hw4
            (try simp only [Act.put, List.setIfInBounds_toArray, List.set_cons_zero, List.set_cons_succ])
            have ne4 : ¬ v2x.heap.size = v3x.heap.size := fun e => absurd hn3.lt (by first | (rw [e]; exact Nat.lt_irrefl _) | (rw [← e]; exact Nat.lt_irrefl _))
            have hn3b := hn3.below hb4
            obtain ⟨pa0, pa1, pf0, pf1⟩ := row2 hn3b
            have q5 := (hs4.other lt3 0 (.int .i64 (s1 : Nat))).other lt3 1 (.int .i64 (s2 : Nat))
            have bb4 := hn3b.set0 (v := .int .i64 (s1 : Nat))
            have bb4 := bb4.set1 (v := .int .i64 (s2 : Nat))
            have bb5 := (hn4.other (i := 0) (v := .int .i64 (s1 : Nat)) (k := v2x.heap.size) (fun e => ne4 e.symm)).other (i := 1) (v := .int .i64 (s2 : Nat)) (k := v2x.heap.size) (fun e => ne4 e.symm)
            obtain ⟨x5, hx5⟩ : ∃ x, (v4x.setCell ⟨v2x.heap.size, 0, none⟩ (.int .i64 (s1 : Nat))).setCell ⟨v2x.heap.size, 1, none⟩ (.int .i64 (s2 : Nat)) = x := ⟨_, rfl⟩
            rw [hx5] at q5 bb4 bb5
            refine storeH 10 (w' := x5) rfl rfl (by kernel_rfl) (by kernel_rfl) ?_ q5 ?_
            · rw [← hx5]; go_simp
              try rfl
            (try simp only [Act.put, List.setIfInBounds_toArray, List.set_cons_zero, List.set_cons_succ])
            clear hx5 pa0 pa1 pf0 pf1
            obtain ⟨pa0, pa1, pf0, pf1⟩ := row2 bb5
            have qq5 := (q5.other lt4 0 (.int .i64 (r1 : Nat))).other lt4 1 (.int .i64 (r2 : Nat))
            have cc5 := bb5.set0 (v := .int .i64 (r1 : Nat))
            have cc5 := cc5.set1 (v := .int .i64 (r2 : Nat))
            have cc4 := (bb4.other (i := 0) (v := .int .i64 (r1 : Nat)) (k := v3x.heap.size) ne4).other (i := 1) (v := .int .i64 (r2 : Nat)) (k := v3x.heap.size) ne4
            obtain ⟨y5, hy5⟩ : ∃ x, (x5.setCell ⟨v3x.heap.size, 0, none⟩ (.int .i64 (r1 : Nat))).setCell ⟨v3x.heap.size, 1, none⟩ (.int .i64 (r2 : Nat)) = x := ⟨_, rfl⟩
            rw [hy5] at qq5 cc4 cc5
            refine storeH 11 (w' := y5) rfl rfl (by kernel_rfl) (by kernel_rfl) ?_ qq5 ?_
            · rw [← hy5]; go_simp
              try rfl
            (try simp only [Act.put, List.setIfInBounds_toArray, List.set_cons_zero, List.set_cons_succ])
            clear hy5 pa0 pa1 pf0 pf1
            refine takeH 12 (some 6) (v := ?_) rfl rfl (by kernel_rfl) (by kernel_rfl) (by kernel_rfl) (fun _ _ _ h => h) (Or.inl ⟨by kernel_rfl, ?_⟩) qq5 ?_
            rotate_left
            · intro w' hSw
              obtain ⟨s0, s1', s2', s3, s4, s5, s6, s7, s8⟩ := hSw.cells
              go_simp
              try with_reducible rfl
            (try simp only [Act.put, List.setIfInBounds_toArray, List.set_cons_zero, List.set_cons_succ])
            refine wpAnyH_done (by kernel_rfl) ?_ _
            have HQ := Lib.hid qq5
            have HC4 := Lib.hid cc4
            have HC5 := Lib.hid cc5
            have HNE : Hid (¬ v2x.heap.size = v3x.heap.size ∧ w.heap.size + 1 < v2x.heap.size ∧ w.heap.size + 1 < v3x.heap.size) := ⟨ne4, lt3, lt4⟩
            clear qq5 q5 cc4 cc5 bb4 bb5 hn3b hn4
            go_wp2_with fail
            go_meet
            exact ⟨_, _, rfl, rfl, rfl, HNE.out, HQ.out, HC4.out, HC5.out⟩
        · obtain ⟨v6x, hw6⟩ : ∃ x, v2x.alloc (.cells #[.int .i64 0, .int .i64 0] 24) = x := ⟨_, rfl⟩
          have hb6 : Below v2x.heap.size v2x v6x := by rw [← hw6]; exact bal _ _
          have hn6 : Bx v6x v2x.heap.size (.int .i64 0) (.int .i64 0) := by rw [← hw6]; exact Bx.new v2x _ _
          have hs6 := hs2.below hb6
          have lt6 : w.heap.size + 1 < v2x.heap.size := hs2.room
          refine opRun 9 (some 5) (v := .pointer (some ⟨v2x.heap.size, 0, none⟩)) (w' := v6x) rfl rfl (by kernel_rfl) ?_ ⟨hs6, ?_⟩
          · rw [← hw6]; go_simp
            try rfl
          clear hw6
          (try simp only [Act.put, List.setIfInBounds_toArray, List.set_cons_zero, List.set_cons_succ])
          refine any1 8 (by kernel_rfl) ?_
          · obtain ⟨v7x, hw7⟩ : ∃ x, v6x.alloc (.cells #[.int .i64 0, .int .i64 0] 24) = x := ⟨_, rfl⟩
            have hb7 : Below v6x.heap.size v6x v7x := by rw [← hw7]; exact bal _ _
            have hn7 : Bx v7x v6x.heap.size (.int .i64 0) (.int .i64 0) := by rw [← hw7]; exact Bx.new v6x _ _
            have hs7 := hs6.below hb7
            have lt7 : w.heap.size + 1 < v6x.heap.size := hs6.room
            refine opRun 8 (some 4) (v := .pointer (some ⟨v6x.heap.size, 0, none⟩)) (w' := v7x) rfl rfl (by kernel_rfl) ?_ ⟨hs7, ?_⟩
            · rw [← hw7]; go_simp
              try rfl
            clear hw7
            (try simp only [Act.put, List.setIfInBounds_toArray, List.set_cons_zero, List.set_cons_succ])
            have ne7 : ¬ v6x.heap.size = v2x.heap.size := fun e => absurd hn6.lt (by first | (rw [e]; exact Nat.lt_irrefl _) | (rw [← e]; exact Nat.lt_irrefl _))
            have hn6b := hn6.below hb7
            obtain ⟨pa0, pa1, pf0, pf1⟩ := row2 hn7
            have q8 := (hs7.other lt7 0 (.int .i64 (s1 : Nat))).other lt7 1 (.int .i64 (s2 : Nat))
            have bb4 := hn7.set0 (v := .int .i64 (s1 : Nat))
            have bb4 := bb4.set1 (v := .int .i64 (s2 : Nat))
            have bb5 := (hn6b.other (i := 0) (v := .int .i64 (s1 : Nat)) (k := v6x.heap.size) (fun e => ne7 e.symm)).other (i := 1) (v := .int .i64 (s2 : Nat)) (k := v6x.heap.size) (fun e => ne7 e.symm)
            obtain ⟨x8, hx8⟩ : ∃ x, (v7x.setCell ⟨v6x.heap.size, 0, none⟩ (.int .i64 (s1 : Nat))).setCell ⟨v6x.heap.size, 1, none⟩ (.int .i64 (s2 : Nat)) = x := ⟨_, rfl⟩
            rw [hx8] at q8 bb4 bb5
            refine storeH 10 (w' := x8) rfl rfl (by kernel_rfl) (by kernel_rfl) ?_ q8 ?_
            · rw [← hx8]; go_simp
              try rfl
            (try simp only [Act.put, List.setIfInBounds_toArray, List.set_cons_zero, List.set_cons_succ])
            clear hx8 pa0 pa1 pf0 pf1
            obtain ⟨pa0, pa1, pf0, pf1⟩ := row2 bb5
            have qq8 := (q8.other lt6 0 (.int .i64 (r1 : Nat))).other lt6 1 (.int .i64 (r2 : Nat))
            have cc5 := bb5.set0 (v := .int .i64 (r1 : Nat))
            have cc5 := cc5.set1 (v := .int .i64 (r2 : Nat))
            have cc4 := (bb4.other (i := 0) (v := .int .i64 (r1 : Nat)) (k := v2x.heap.size) ne7).other (i := 1) (v := .int .i64 (r2 : Nat)) (k := v2x.heap.size) ne7
            obtain ⟨y8, hy8⟩ : ∃ x, (x8.setCell ⟨v2x.heap.size, 0, none⟩ (.int .i64 (r1 : Nat))).setCell ⟨v2x.heap.size, 1, none⟩ (.int .i64 (r2 : Nat)) = x := ⟨_, rfl⟩
            rw [hy8] at qq8 cc4 cc5
            refine storeH 11 (w' := y8) rfl rfl (by kernel_rfl) (by kernel_rfl) ?_ qq8 ?_
            · rw [← hy8]; go_simp
              try rfl
            (try simp only [Act.put, List.setIfInBounds_toArray, List.set_cons_zero, List.set_cons_succ])
            clear hy8 pa0 pa1 pf0 pf1
            refine takeH 12 (some 6) (v := ?_) rfl rfl (by kernel_rfl) (by kernel_rfl) (by kernel_rfl) (fun _ _ _ h => h) (Or.inl ⟨by kernel_rfl, ?_⟩) qq8 ?_
            rotate_left
            · intro w' hSw
              obtain ⟨s0, s1', s2', s3, s4, s5, s6, s7, s8⟩ := hSw.cells
              go_simp
              try with_reducible rfl
            (try simp only [Act.put, List.setIfInBounds_toArray, List.set_cons_zero, List.set_cons_succ])
            refine wpAnyH_done (by kernel_rfl) ?_ _
            have HQ := Lib.hid qq8
            have HC4 := Lib.hid cc4
            have HC5 := Lib.hid cc5
            have HNE : Hid (¬ v6x.heap.size = v2x.heap.size ∧ w.heap.size + 1 < v6x.heap.size ∧ w.heap.size + 1 < v2x.heap.size) := ⟨ne7, lt7, lt6⟩
            clear qq8 q8 cc4 cc5 bb4 bb5 hn7 hn6b
            go_wp2_with fail
            go_meet
            exact ⟨_, _, rfl, rfl, rfl, HNE.out, HQ.out, HC4.out, HC5.out⟩
      · obtain ⟨v9x, hw9⟩ : ∃ x, v1x.alloc (.cells #[.int .i64 0, .int .i64 0] 24) = x := ⟨_, rfl⟩
        have hb9 : Below v1x.heap.size v1x v9x := by rw [← hw9]; exact bal _ _
        have hn9 : Bx v9x v1x.heap.size (.int .i64 0) (.int .i64 0) := by rw [← hw9]; exact Bx.new v1x _ _
        have hs9 := hs1.below hb9
        have lt9 : w.heap.size + 1 < v1x.heap.size := hs1.room
        refine opRun 8 (some 4) (v := .pointer (some ⟨v1x.heap.size, 0, none⟩)) (w' := v9x) rfl rfl (by kernel_rfl) ?_ ⟨hs9, ?_⟩
        · rw [← hw9]; go_simp
          try rfl
        clear hw9
        (try simp only [Act.put, List.setIfInBounds_toArray, List.set_cons_zero, List.set_cons_succ])
        have xa9 := (hb9.block _ (Array.getElem?_eq_some_iff.1 xa1).1).trans xa1
        have xb9 := (hb9.block _ (Array.getElem?_eq_some_iff.1 xb1).1).trans xb1
        refine any2 3 9 (by kernel_rfl) ?_ ?_
        · refine opCall 3 (some 11) (f := 48) (args := ?_) rfl rfl (by kernel_rfl) ?_ ?_
          rotate_left
          · go_simp
            try with_reducible rfl
          refine (HFA.out _ _ _ _ _ hs9.1 xa9 xb9).mono ?_
          rintro e v10x ⟨rfl, hb10⟩
          have hs10 := hs9.below hb10
          have hn9c := hn9.below hb10
          refine ⟨_, rfl, hs10, ?_⟩
          (try simp only [Act.put, List.setIfInBounds_toArray, List.set_cons_zero, List.set_cons_succ])
          refine takeH 4 (some 7) (v := ?_) rfl rfl (by kernel_rfl) (by kernel_rfl) (by kernel_rfl) (fun _ _ _ h => h) (Or.inl ⟨by kernel_rfl, ?_⟩) hs10 ?_
          rotate_left
          · intro w' hSw
            obtain ⟨s0, s1', s2', s3, s4, s5, s6, s7, s8⟩ := hSw.cells
            go_simp
            try with_reducible rfl
          (try simp only [Act.put, List.setIfInBounds_toArray, List.set_cons_zero, List.set_cons_succ])
          refine takeH 5 (some 12) (v := ?_) rfl rfl (by kernel_rfl) (by kernel_rfl) (by kernel_rfl) (fun _ _ _ h => h) (Or.inl ⟨by kernel_rfl, ?_⟩) hs10 ?_
          rotate_left
          · intro w' hSw
            obtain ⟨s0, s1', s2', s3, s4, s5, s6, s7, s8⟩ := hSw.cells
            go_simp
            try with_reducible rfl
          (try simp only [Act.put, List.setIfInBounds_toArray, List.set_cons_zero, List.set_cons_succ])
          refine takeH 6 (some 13) (v := ?_) rfl rfl (by kernel_rfl) (by kernel_rfl) (by kernel_rfl) (fun _ _ _ h => h) (Or.inl ⟨by kernel_rfl, ?_⟩) hs10 ?_
          rotate_left
          · intro w' hSw
            obtain ⟨s0, s1', s2', s3, s4, s5, s6, s7, s8⟩ := hSw.cells
            go_simp
            try with_reducible rfl
          (try simp only [Act.put, List.setIfInBounds_toArray, List.set_cons_zero, List.set_cons_succ])
          refine takeH 7 (some 14) (v := ?_) rfl rfl (by kernel_rfl) (by kernel_rfl) (by kernel_rfl) (fun _ _ _ h => h) (Or.inl ⟨by kernel_rfl, ?_⟩) hs10 ?_
          rotate_left
          · intro w' hSw
            obtain ⟨s0, s1', s2', s3, s4, s5, s6, s7, s8⟩ := hSw.cells
            go_simp
            try with_reducible rfl
          (try simp only [Act.put, List.setIfInBounds_toArray, List.set_cons_zero, List.set_cons_succ])
          refine any1 9 (by kernel_rfl) ?_
          · obtain ⟨v11x, hw11⟩ : ∃ x, v10x.alloc (.cells #[.int .i64 0, .int .i64 0] 24) = x := ⟨_, rfl⟩
            have hb11 : Below v10x.heap.size v10x v11x := by rw [← hw11]; exact bal _ _
            have hn11 : Bx v11x v10x.heap.size (.int .i64 0) (.int .i64 0) := by rw [← hw11]; exact Bx.new v10x _ _
            have hs11 := hs10.below hb11
            have lt11 : w.heap.size + 1 < v10x.heap.size := hs10.room
            refine opRun 9 (some 5) (v := .pointer (some ⟨v10x.heap.size, 0, none⟩)) (w' := v11x) rfl rfl (by kernel_rfl) ?_ ⟨hs11, ?_⟩
            · rw [← hw11]; go_simp
              try rfl
            clear hw11
            (try simp only [Act.put, List.setIfInBounds_toArray, List.set_cons_zero, List.set_cons_succ])
            have ne11 : ¬ v1x.heap.size = v10x.heap.size := fun e => absurd hn9c.lt (by first | (rw [e]; exact Nat.lt_irrefl _) | (rw [← e]; exact Nat.lt_irrefl _))
            have hn9cb := hn9c.below hb11
            obtain ⟨pa0, pa1, pf0, pf1⟩ := row2 hn9cb
            have q12 := (hs11.other lt9 0 (.int .i64 (s1 : Nat))).other lt9 1 (.int .i64 (s2 : Nat))
            have bb4 := hn9cb.set0 (v := .int .i64 (s1 : Nat))
            have bb4 := bb4.set1 (v := .int .i64 (s2 : Nat))
            have bb5 := (hn11.other (i := 0) (v := .int .i64 (s1 : Nat)) (k := v1x.heap.size) (fun e => ne11 e.symm)).other (i := 1) (v := .int .i64 (s2 : Nat)) (k := v1x.heap.size) (fun e => ne11 e.symm)
            obtain ⟨x12, hx12⟩ : ∃ x, (v11x.setCell ⟨v1x.heap.size, 0, none⟩ (.int .i64 (s1 : Nat))).setCell ⟨v1x.heap.size, 1, none⟩ (.int .i64 (s2 : Nat)) = x := ⟨_, rfl⟩
            rw [hx12] at q12 bb4 bb5
            refine storeH 10 (w' := x12) rfl rfl (by kernel_rfl) (by kernel_rfl) ?_ q12 ?_
            · rw [← hx12]; go_simp
              try rfl
            (try simp only [Act.put, List.setIfInBounds_toArray, List.set_cons_zero, List.set_cons_succ])
            clear hx12 pa0 pa1 pf0 pf1
            obtain ⟨pa0, pa1, pf0, pf1⟩ := row2 bb5
            have qq12 := (q12.other lt11 0 (.int .i64 (r1 : Nat))).other lt11 1 (.int .i64 (r2 : Nat))
            have cc5 := bb5.set0 (v := .int .i64 (r1 : Nat))
            have cc5 := cc5.set1 (v := .int .i64 (r2 : Nat))
            have cc4 := (bb4.other (i := 0) (v := .int .i64 (r1 : Nat)) (k := v10x.heap.size) ne11).other (i := 1) (v := .int .i64 (r2 : Nat)) (k := v10x.heap.size) ne11
            obtain ⟨y12, hy12⟩ : ∃ x, (x12.setCell ⟨v10x.heap.size, 0, none⟩ (.int .i64 (r1 : Nat))).setCell ⟨v10x.heap.size, 1, none⟩ (.int .i64 (r2 : Nat)) = x := ⟨_, rfl⟩
            rw [hy12] at qq12 cc4 cc5
            refine storeH 11 (w' := y12) rfl rfl (by kernel_rfl) (by kernel_rfl) ?_ qq12 ?_
            · rw [← hy12]; go_simp
              try rfl
            (try simp only [Act.put, List.setIfInBounds_toArray, List.set_cons_zero, List.set_cons_succ])
            clear hy12 pa0 pa1 pf0 pf1
            refine takeH 12 (some 6) (v := ?_) rfl rfl (by kernel_rfl) (by kernel_rfl) (by kernel_rfl) (fun _ _ _ h => h) (Or.inl ⟨by kernel_rfl, ?_⟩) qq12 ?_
            rotate_left
            · intro w' hSw
              obtain ⟨s0, s1', s2', s3, s4, s5, s6, s7, s8⟩ := hSw.cells
              go_simp
              try with_reducible rfl
            (try simp only [Act.put, List.setIfInBounds_toArray, List.set_cons_zero, List.set_cons_succ])
            refine wpAnyH_done (by kernel_rfl) ?_ _
            have HQ := Lib.hid qq12
            have HC4 := Lib.hid cc4
            have HC5 := Lib.hid cc5
            have HNE : Hid (¬ v1x.heap.size = v10x.heap.size ∧ w.heap.size + 1 < v1x.heap.size ∧ w.heap.size + 1 < v10x.heap.size) := ⟨ne11, lt9, lt11⟩
            clear qq12 q12 cc4 cc5 bb4 bb5 hn9cb hn11
            go_wp2_with fail
            go_meet
            exact ⟨_, _, rfl, rfl, rfl, HNE.out, HQ.out, HC4.out, HC5.out⟩
        · obtain ⟨v13x, hw13⟩ : ∃ x, v9x.alloc (.cells #[.int .i64 0, .int .i64 0] 24) = x := ⟨_, rfl⟩
          have hb13 : Below v9x.heap.size v9x v13x := by rw [← hw13]; exact bal _ _
          have hn13 : Bx v13x v9x.heap.size (.int .i64 0) (.int .i64 0) := by rw [← hw13]; exact Bx.new v9x _ _
          have hs13 := hs9.below hb13
          have lt13 : w.heap.size + 1 < v9x.heap.size := hs9.room
          refine opRun 9 (some 5) (v := .pointer (some ⟨v9x.heap.size, 0, none⟩)) (w' := v13x) rfl rfl (by kernel_rfl) ?_ ⟨hs13, ?_⟩
          · rw [← hw13]; go_simp
            try rfl
          clear hw13
          (try simp only [Act.put, List.setIfInBounds_toArray, List.set_cons_zero, List.set_cons_succ])
          have ne13 : ¬ v1x.heap.size = v9x.heap.size := fun e => absurd hn9.lt (by first | (rw [e]; exact Nat.lt_irrefl _) | (rw [← e]; exact Nat.lt_irrefl _))
          have hn9b := hn9.below hb13
          have xa13 := (hb13.block _ (Array.getElem?_eq_some_iff.1 xa9).1).trans xa9
          have xb13 := (hb13.block _ (Array.getElem?_eq_some_iff.1 xb9).1).trans xb9
          refine any1 3 (by kernel_rfl) ?_
          · refine opCall 3 (some 11) (f := 48) (args := ?_) rfl rfl (by kernel_rfl) ?_ ?_
            rotate_left
            · go_simp
              try with_reducible rfl
            refine (HFA.out _ _ _ _ _ hs13.1 xa13 xb13).mono ?_
            rintro e v14x ⟨rfl, hb14⟩
            have hs14 := hs13.below hb14
            have hn9bc := hn9b.below hb14
            have hn13c := hn13.below hb14
            refine ⟨_, rfl, hs14, ?_⟩
            (try simp only [Act.put, List.setIfInBounds_toArray, List.set_cons_zero, List.set_cons_succ])
            refine takeH 4 (some 7) (v := ?_) rfl rfl (by kernel_rfl) (by kernel_rfl) (by kernel_rfl) (fun _ _ _ h => h) (Or.inl ⟨by kernel_rfl, ?_⟩) hs14 ?_
            rotate_left
            · intro w' hSw
              obtain ⟨s0, s1', s2', s3, s4, s5, s6, s7, s8⟩ := hSw.cells
              go_simp
              try with_reducible rfl
            (try simp only [Act.put, List.setIfInBounds_toArray, List.set_cons_zero, List.set_cons_succ])
            refine takeH 5 (some 12) (v := ?_) rfl rfl (by kernel_rfl) (by kernel_rfl) (by kernel_rfl) (fun _ _ _ h => h) (Or.inl ⟨by kernel_rfl, ?_⟩) hs14 ?_
            rotate_left
            · intro w' hSw
              obtain ⟨s0, s1', s2', s3, s4, s5, s6, s7, s8⟩ := hSw.cells
              go_simp
              try with_reducible rfl
            (try simp only [Act.put, List.setIfInBounds_toArray, List.set_cons_zero, List.set_cons_succ])
            refine takeH 6 (some 13) (v := ?_) rfl rfl (by kernel_rfl) (by kernel_rfl) (by kernel_rfl) (fun _ _ _ h => h) (Or.inl ⟨by kernel_rfl, ?_⟩) hs14 ?_
            rotate_left
            · intro w' hSw
              obtain ⟨s0, s1', s2', s3, s4, s5, s6, s7, s8⟩ := hSw.cells
              go_simp
              try with_reducible rfl
            (try simp only [Act.put, List.setIfInBounds_toArray, List.set_cons_zero, List.set_cons_succ])
            refine takeH 7 (some 14) (v := ?_) rfl rfl (by kernel_rfl) (by kernel_rfl) (by kernel_rfl) (fun _ _ _ h => h) (Or.inl ⟨by kernel_rfl, ?_⟩) hs14 ?_
            rotate_left
            · intro w' hSw
              obtain ⟨s0, s1', s2', s3, s4, s5, s6, s7, s8⟩ := hSw.cells
              go_simp
              try with_reducible rfl
            (try simp only [Act.put, List.setIfInBounds_toArray, List.set_cons_zero, List.set_cons_succ])
            obtain ⟨pa0, pa1, pf0, pf1⟩ := row2 hn9bc
            have q15 := (hs14.other lt9 0 (.int .i64 (s1 : Nat))).other lt9 1 (.int .i64 (s2 : Nat))
            have bb4 := hn9bc.set0 (v := .int .i64 (s1 : Nat))
            have bb4 := bb4.set1 (v := .int .i64 (s2 : Nat))
            have bb5 := (hn13c.other (i := 0) (v := .int .i64 (s1 : Nat)) (k := v1x.heap.size) (fun e => ne13 e.symm)).other (i := 1) (v := .int .i64 (s2 : Nat)) (k := v1x.heap.size) (fun e => ne13 e.symm)
            obtain ⟨x15, hx15⟩ : ∃ x, (v14x.setCell ⟨v1x.heap.size, 0, none⟩ (.int .i64 (s1 : Nat))).setCell ⟨v1x.heap.size, 1, none⟩ (.int .i64 (s2 : Nat)) = x := ⟨_, rfl⟩
            rw [hx15] at q15 bb4 bb5
            refine storeH 10 (w' := x15) rfl rfl (by kernel_rfl) (by kernel_rfl) ?_ q15 ?_
            · rw [← hx15]; go_simp
              try rfl
            (try simp only [Act.put, List.setIfInBounds_toArray, List.set_cons_zero, List.set_cons_succ])
            clear hx15 pa0 pa1 pf0 pf1
            obtain ⟨pa0, pa1, pf0, pf1⟩ := row2 bb5
            have qq15 := (q15.other lt13 0 (.int .i64 (r1 : Nat))).other lt13 1 (.int .i64 (r2 : Nat))
            have cc5 := bb5.set0 (v := .int .i64 (r1 : Nat))
            have cc5 := cc5.set1 (v := .int .i64 (r2 : Nat))
            have cc4 := (bb4.other (i := 0) (v := .int .i64 (r1 : Nat)) (k := v9x.heap.size) ne13).other (i := 1) (v := .int .i64 (r2 : Nat)) (k := v9x.heap.size) ne13
            obtain ⟨y15, hy15⟩ : ∃ x, (x15.setCell ⟨v9x.heap.size, 0, none⟩ (.int .i64 (r1 : Nat))).setCell ⟨v9x.heap.size, 1, none⟩ (.int .i64 (r2 : Nat)) = x := ⟨_, rfl⟩
            rw [hy15] at qq15 cc4 cc5
            refine storeH 11 (w' := y15) rfl rfl (by kernel_rfl) (by kernel_rfl) ?_ qq15 ?_
            · rw [← hy15]; go_simp
              try rfl
            (try simp only [Act.put, List.setIfInBounds_toArray, List.set_cons_zero, List.set_cons_succ])
            clear hy15 pa0 pa1 pf0 pf1
            refine takeH 12 (some 6) (v := ?_) rfl rfl (by kernel_rfl) (by kernel_rfl) (by kernel_rfl) (fun _ _ _ h => h) (Or.inl ⟨by kernel_rfl, ?_⟩) qq15 ?_
            rotate_left
            · intro w' hSw
              obtain ⟨s0, s1', s2', s3, s4, s5, s6, s7, s8⟩ := hSw.cells
              go_simp
              try with_reducible rfl
            (try simp only [Act.put, List.setIfInBounds_toArray, List.set_cons_zero, List.set_cons_succ])
            refine wpAnyH_done (by kernel_rfl) ?_ _
            have HQ := Lib.hid qq15
            have HC4 := Lib.hid cc4
            have HC5 := Lib.hid cc5
            have HNE : Hid (¬ v1x.heap.size = v9x.heap.size ∧ w.heap.size + 1 < v1x.heap.size ∧ w.heap.size + 1 < v9x.heap.size) := ⟨ne13, lt9, lt13⟩
            clear qq15 q15 cc4 cc5 bb4 bb5 hn9bc hn13c
            go_wp2_with fail
            go_meet
            exact ⟨_, _, rfl, rfl, rfl, HNE.out, HQ.out, HC4.out, HC5.out⟩
      · obtain ⟨v16x, hw16⟩ : ∃ x, v1x.alloc (.cells #[.int .i64 0, .int .i64 0] 24) = x := ⟨_, rfl⟩
        have hb16 : Below v1x.heap.size v1x v16x := by rw [← hw16]; exact bal _ _
        have hn16 : Bx v16x v1x.heap.size (.int .i64 0) (.int .i64 0) := by rw [← hw16]; exact Bx.new v1x _ _
        have hs16 := hs1.below hb16
        have lt16 : w.heap.size + 1 < v1x.heap.size := hs1.room
        refine opRun 9 (some 5) (v := .pointer (some ⟨v1x.heap.size, 0, none⟩)) (w' := v16x) rfl rfl (by kernel_rfl) ?_ ⟨hs16, ?_⟩
        · rw [← hw16]; go_simp
          try rfl
        clear hw16
        (try simp only [Act.put, List.setIfInBounds_toArray, List.set_cons_zero, List.set_cons_succ])
        have xa16 := (hb16.block _ (Array.getElem?_eq_some_iff.1 xa1).1).trans xa1
        have xb16 := (hb16.block _ (Array.getElem?_eq_some_iff.1 xb1).1).trans xb1
        refine any2 3 8 (by kernel_rfl) ?_ ?_
        · refine opCall 3 (some 11) (f := 48) (args := ?_) rfl rfl (by kernel_rfl) ?_ ?_
          rotate_left
          · go_simp
            try with_reducible rfl
          refine (HFA.out _ _ _ _ _ hs16.1 xa16 xb16).mono ?_
          rintro e v17x ⟨rfl, hb17⟩
          have hs17 := hs16.below hb17
          have hn16c := hn16.below hb17
          refine ⟨_, rfl, hs17, ?_⟩
          (try simp only [Act.put, List.setIfInBounds_toArray, List.set_cons_zero, List.set_cons_succ])
          refine takeH 4 (some 7) (v := ?_) rfl rfl (by kernel_rfl) (by kernel_rfl) (by kernel_rfl) (fun _ _ _ h => h) (Or.inl ⟨by kernel_rfl, ?_⟩) hs17 ?_
          rotate_left
          · intro w' hSw
            obtain ⟨s0, s1', s2', s3, s4, s5, s6, s7, s8⟩ := hSw.cells
            go_simp
            try with_reducible rfl
          (try simp only [Act.put, List.setIfInBounds_toArray, List.set_cons_zero, List.set_cons_succ])
          refine takeH 5 (some 12) (v := ?_) rfl rfl (by kernel_rfl) (by kernel_rfl) (by kernel_rfl) (fun _ _ _ h => h) (Or.inl ⟨by kernel_rfl, ?_⟩) hs17 ?_
          rotate_left
          · intro w' hSw
            obtain ⟨s0, s1', s2', s3, s4, s5, s6, s7, s8⟩ := hSw.cells
            go_simp
            try with_reducible rfl
          (try simp only [Act.put, List.setIfInBounds_toArray, List.set_cons_zero, List.set_cons_succ])
          refine takeH 6 (some 13) (v := ?_) rfl rfl (by kernel_rfl) (by kernel_rfl) (by kernel_rfl) (fun _ _ _ h => h) (Or.inl ⟨by kernel_rfl, ?_⟩) hs17 ?_
          rotate_left
          · intro w' hSw
            obtain ⟨s0, s1', s2', s3, s4, s5, s6, s7, s8⟩ := hSw.cells
            go_simp
            try with_reducible rfl
          (try simp only [Act.put, List.setIfInBounds_toArray, List.set_cons_zero, List.set_cons_succ])
          refine takeH 7 (some 14) (v := ?_) rfl rfl (by kernel_rfl) (by kernel_rfl) (by kernel_rfl) (fun _ _ _ h => h) (Or.inl ⟨by kernel_rfl, ?_⟩) hs17 ?_
          rotate_left
          · intro w' hSw
            obtain ⟨s0, s1', s2', s3, s4, s5, s6, s7, s8⟩ := hSw.cells
            go_simp
            try with_reducible rfl
          (try simp only [Act.put, List.setIfInBounds_toArray, List.set_cons_zero, List.set_cons_succ])
          refine any1 8 (by kernel_rfl) ?_
          · obtain ⟨v18x, hw18⟩ : ∃ x, v17x.alloc (.cells #[.int .i64 0, .int .i64 0] 24) = x := ⟨_, rfl⟩
            have hb18 : Below v17x.heap.size v17x v18x := by rw [← hw18]; exact bal _ _
            have hn18 : Bx v18x v17x.heap.size (.int .i64 0) (.int .i64 0) := by rw [← hw18]; exact Bx.new v17x _ _
            have hs18 := hs17.below hb18
            have lt18 : w.heap.size + 1 < v17x.heap.size := hs17.room
            refine opRun 8 (some 4) (v := .pointer (some ⟨v17x.heap.size, 0, none⟩)) (w' := v18x) rfl rfl (by kernel_rfl) ?_ ⟨hs18, ?_⟩
            · rw [← hw18]; go_simp
              try rfl
            clear hw18
            (try simp only [Act.put, List.setIfInBounds_toArray, List.set_cons_zero, List.set_cons_succ])
            have ne18 : ¬ v17x.heap.size = v1x.heap.size := fun e => absurd hn16c.lt (by first | (rw [e]; exact Nat.lt_irrefl _) | (rw [← e]; exact Nat.lt_irrefl _))
            have hn16cb := hn16c.below hb18
            obtain ⟨pa0, pa1, pf0, pf1⟩ := row2 hn18
            have q19 := (hs18.other lt18 0 (.int .i64 (s1 : Nat))).other lt18 1 (.int .i64 (s2 : Nat))
            have bb4 := hn18.set0 (v := .int .i64 (s1 : Nat))
            have bb4 := bb4.set1 (v := .int .i64 (s2 : Nat))
            have bb5 := (hn16cb.other (i := 0) (v := .int .i64 (s1 : Nat)) (k := v17x.heap.size) (fun e => ne18 e.symm)).other (i := 1) (v := .int .i64 (s2 : Nat)) (k := v17x.heap.size) (fun e => ne18 e.symm)
            obtain ⟨x19, hx19⟩ : ∃ x, (v18x.setCell ⟨v17x.heap.size, 0, none⟩ (.int .i64 (s1 : Nat))).setCell ⟨v17x.heap.size, 1, none⟩ (.int .i64 (s2 : Nat)) = x := ⟨_, rfl⟩
            rw [hx19] at q19 bb4 bb5
            refine storeH 10 (w' := x19) rfl rfl (by kernel_rfl) (by kernel_rfl) ?_ q19 ?_
            · rw [← hx19]; go_simp
              try rfl
            (try simp only [Act.put, List.setIfInBounds_toArray, List.set_cons_zero, List.set_cons_succ])
            clear hx19 pa0 pa1 pf0 pf1
            obtain ⟨pa0, pa1, pf0, pf1⟩ := row2 bb5
            have qq19 := (q19.other lt16 0 (.int .i64 (r1 : Nat))).other lt16 1 (.int .i64 (r2 : Nat))
            have cc5 := bb5.set0 (v := .int .i64 (r1 : Nat))
            have cc5 := cc5.set1 (v := .int .i64 (r2 : Nat))
            have cc4 := (bb4.other (i := 0) (v := .int .i64 (r1 : Nat)) (k := v1x.heap.size) ne18).other (i := 1) (v := .int .i64 (r2 : Nat)) (k := v1x.heap.size) ne18
            obtain ⟨y19, hy19⟩ : ∃ x, (x19.setCell ⟨v1x.heap.size, 0, none⟩ (.int .i64 (r1 : Nat))).setCell ⟨v1x.heap.size, 1, none⟩ (.int .i64 (r2 : Nat)) = x := ⟨_, rfl⟩
            rw [hy19] at qq19 cc4 cc5
            refine storeH 11 (w' := y19) rfl rfl (by kernel_rfl) (by kernel_rfl) ?_ qq19 ?_
            · rw [← hy19]; go_simp
              try rfl
            (try simp only [Act.put, List.setIfInBounds_toArray, List.set_cons_zero, List.set_cons_succ])
            clear hy19 pa0 pa1 pf0 pf1
            refine takeH 12 (some 6) (v := ?_) rfl rfl (by kernel_rfl) (by kernel_rfl) (by kernel_rfl) (fun _ _ _ h => h) (Or.inl ⟨by kernel_rfl, ?_⟩) qq19 ?_
            rotate_left
            · intro w' hSw
              obtain ⟨s0, s1', s2', s3, s4, s5, s6, s7, s8⟩ := hSw.cells
              go_simp
              try with_reducible rfl
            (try simp only [Act.put, List.setIfInBounds_toArray, List.set_cons_zero, List.set_cons_succ])
            refine wpAnyH_done (by kernel_rfl) ?_ _
            have HQ := Lib.hid qq19
            have HC4 := Lib.hid cc4
            have HC5 := Lib.hid cc5
            have HNE : Hid (¬ v17x.heap.size = v1x.heap.size ∧ w.heap.size + 1 < v17x.heap.size ∧ w.heap.size + 1 < v1x.heap.size) := ⟨ne18, lt18, lt16⟩
            clear qq19 q19 cc4 cc5 bb4 bb5 hn18 hn16cb
            go_wp2_with fail
            go_meet
            exact ⟨_, _, rfl, rfl, rfl, HNE.out, HQ.out, HC4.out, HC5.out⟩
        · obtain ⟨v20x, hw20⟩ : ∃ x, v16x.alloc (.cells #[.int .i64 0, .int .i64 0] 24) = x := ⟨_, rfl⟩
          have hb20 : Below v16x.heap.size v16x v20x := by rw [← hw20]; exact bal _ _
          have hn20 : Bx v20x v16x.heap.size (.int .i64 0) (.int .i64 0) := by rw [← hw20]; exact Bx.new v16x _ _
          have hs20 := hs16.below hb20
          have lt20 : w.heap.size + 1 < v16x.heap.size := hs16.room
          refine opRun 8 (some 4) (v := .pointer (some ⟨v16x.heap.size, 0, none⟩)) (w' := v20x) rfl rfl (by kernel_rfl) ?_ ⟨hs20, ?_⟩
          · rw [← hw20]; go_simp
            try rfl
          clear hw20
          (try simp only [Act.put, List.setIfInBounds_toArray, List.set_cons_zero, List.set_cons_succ])
          have ne20 : ¬ v16x.heap.size = v1x.heap.size := fun e => absurd hn16.lt (by first | (rw [e]; exact Nat.lt_irrefl _) | (rw [← e]; exact Nat.lt_irrefl _))
          have hn16b := hn16.below hb20
          have xa20 := (hb20.block _ (Array.getElem?_eq_some_iff.1 xa16).1).trans xa16
          have xb20 := (hb20.block _ (Array.getElem?_eq_some_iff.1 xb16).1).trans xb16
          refine any1 3 (by kernel_rfl) ?_
          · refine opCall 3 (some 11) (f := 48) (args := ?_) rfl rfl (by kernel_rfl) ?_ ?_
            rotate_left
            · go_simp
              try with_reducible rfl
            refine (HFA.out _ _ _ _ _ hs20.1 xa20 xb20).mono ?_
            rintro e v21x ⟨rfl, hb21⟩
            have hs21 := hs20.below hb21
            have hn20c := hn20.below hb21
            have hn16bc := hn16b.below hb21
            refine ⟨_, rfl, hs21, ?_⟩
            (try simp only [Act.put, List.setIfInBounds_toArray, List.set_cons_zero, List.set_cons_succ])
            refine takeH 4 (some 7) (v := ?_) rfl rfl (by kernel_rfl) (by kernel_rfl) (by kernel_rfl) (fun _ _ _ h => h) (Or.inl ⟨by kernel_rfl, ?_⟩) hs21 ?_
            rotate_left
            · intro w' hSw
              obtain ⟨s0, s1', s2', s3, s4, s5, s6, s7, s8⟩ := hSw.cells
              go_simp
              try with_reducible rfl
            (try simp only [Act.put, List.setIfInBounds_toArray, List.set_cons_zero, List.set_cons_succ])
            refine takeH 5 (some 12) (v := ?_) rfl rfl (by kernel_rfl) (by kernel_rfl) (by kernel_rfl) (fun _ _ _ h => h) (Or.inl ⟨by kernel_rfl, ?_⟩) hs21 ?_
            rotate_left
            · intro w' hSw
              obtain ⟨s0, s1', s2', s3, s4, s5, s6, s7, s8⟩ := hSw.cells
              go_simp
              try with_reducible rfl
            (try simp only [Act.put, List.setIfInBounds_toArray, List.set_cons_zero, List.set_cons_succ])
            refine takeH 6 (some 13) (v := ?_) rfl rfl (by kernel_rfl) (by kernel_rfl) (by kernel_rfl) (fun _ _ _ h => h) (Or.inl ⟨by kernel_rfl, ?_⟩) hs21 ?_
            rotate_left
            · intro w' hSw
              obtain ⟨s0, s1', s2', s3, s4, s5, s6, s7, s8⟩ := hSw.cells
              go_simp
              try with_reducible rfl
            (try simp only [Act.put, List.setIfInBounds_toArray, List.set_cons_zero, List.set_cons_succ])
            refine takeH 7 (some 14) (v := ?_) rfl rfl (by kernel_rfl) (by kernel_rfl) (by kernel_rfl) (fun _ _ _ h => h) (Or.inl ⟨by kernel_rfl, ?_⟩) hs21 ?_
            rotate_left
            · intro w' hSw
              obtain ⟨s0, s1', s2', s3, s4, s5, s6, s7, s8⟩ := hSw.cells
              go_simp
              try with_reducible rfl
            (try simp only [Act.put, List.setIfInBounds_toArray, List.set_cons_zero, List.set_cons_succ])
            obtain ⟨pa0, pa1, pf0, pf1⟩ := row2 hn20c
            have q22 := (hs21.other lt20 0 (.int .i64 (s1 : Nat))).other lt20 1 (.int .i64 (s2 : Nat))
            have bb4 := hn20c.set0 (v := .int .i64 (s1 : Nat))
            have bb4 := bb4.set1 (v := .int .i64 (s2 : Nat))
            have bb5 := (hn16bc.other (i := 0) (v := .int .i64 (s1 : Nat)) (k := v16x.heap.size) (fun e => ne20 e.symm)).other (i := 1) (v := .int .i64 (s2 : Nat)) (k := v16x.heap.size) (fun e => ne20 e.symm)
            obtain ⟨x22, hx22⟩ : ∃ x, (v21x.setCell ⟨v16x.heap.size, 0, none⟩ (.int .i64 (s1 : Nat))).setCell ⟨v16x.heap.size, 1, none⟩ (.int .i64 (s2 : Nat)) = x := ⟨_, rfl⟩
            rw [hx22] at q22 bb4 bb5
            refine storeH 10 (w' := x22) rfl rfl (by kernel_rfl) (by kernel_rfl) ?_ q22 ?_
            · rw [← hx22]; go_simp
              try rfl
            (try simp only [Act.put, List.setIfInBounds_toArray, List.set_cons_zero, List.set_cons_succ])
            clear hx22 pa0 pa1 pf0 pf1
            obtain ⟨pa0, pa1, pf0, pf1⟩ := row2 bb5
            have qq22 := (q22.other lt16 0 (.int .i64 (r1 : Nat))).other lt16 1 (.int .i64 (r2 : Nat))
            have cc5 := bb5.set0 (v := .int .i64 (r1 : Nat))
            have cc5 := cc5.set1 (v := .int .i64 (r2 : Nat))
            have cc4 := (bb4.other (i := 0) (v := .int .i64 (r1 : Nat)) (k := v1x.heap.size) ne20).other (i := 1) (v := .int .i64 (r2 : Nat)) (k := v1x.heap.size) ne20
            obtain ⟨y22, hy22⟩ : ∃ x, (x22.setCell ⟨v1x.heap.size, 0, none⟩ (.int .i64 (r1 : Nat))).setCell ⟨v1x.heap.size, 1, none⟩ (.int .i64 (r2 : Nat)) = x := ⟨_, rfl⟩
            rw [hy22] at qq22 cc4 cc5
            refine storeH 11 (w' := y22) rfl rfl (by kernel_rfl) (by kernel_rfl) ?_ qq22 ?_
            · rw [← hy22]; go_simp
              try rfl
            (try simp only [Act.put, List.setIfInBounds_toArray, List.set_cons_zero, List.set_cons_succ])
            clear hy22 pa0 pa1 pf0 pf1
            refine takeH 12 (some 6) (v := ?_) rfl rfl (by kernel_rfl) (by kernel_rfl) (by kernel_rfl) (fun _ _ _ h => h) (Or.inl ⟨by kernel_rfl, ?_⟩) qq22 ?_
            rotate_left
            · intro w' hSw
              obtain ⟨s0, s1', s2', s3, s4, s5, s6, s7, s8⟩ := hSw.cells
              go_simp
              try with_reducible rfl
            (try simp only [Act.put, List.setIfInBounds_toArray, List.set_cons_zero, List.set_cons_succ])
            refine wpAnyH_done (by kernel_rfl) ?_ _
            have HQ := Lib.hid qq22
            have HC4 := Lib.hid cc4
            have HC5 := Lib.hid cc5
            have HNE : Hid (¬ v16x.heap.size = v1x.heap.size ∧ w.heap.size + 1 < v16x.heap.size ∧ w.heap.size + 1 < v1x.heap.size) := ⟨ne20, lt20, lt16⟩
            clear qq22 q22 cc4 cc5 bb4 bb5 hn20c hn16bc
            go_wp2_with fail
            go_meet
            exact ⟨_, _, rfl, rfl, rfl, HNE.out, HQ.out, HC4.out, HC5.out⟩
    · obtain ⟨v23x, hw23⟩ : ∃ x, wd.alloc (.cells #[.int .i64 0, .int .i64 0] 24) = x := ⟨_, rfl⟩
      have hb23 : Below wd.heap.size wd v23x := by rw [← hw23]; exact bal _ _
      have hn23 : Bx v23x wd.heap.size (.int .i64 0) (.int .i64 0) := by rw [← hw23]; exact Bx.new wd _ _
      have hs23 := hHeld.below hb23
      have lt23 : w.heap.size + 1 < wd.heap.size := hHeld.room
      refine opRun 8 (some 4) (v := .pointer (some ⟨wd.heap.size, 0, none⟩)) (w' := v23x) rfl rfl (by kernel_rfl) ?_ ⟨hs23, ?_⟩
      · rw [← hw23]; go_simp
        try rfl
      clear hw23
      (try simp only [Act.put, List.setIfInBounds_toArray, List.set_cons_zero, List.set_cons_succ])
      refine any2 2 9 (by kernel_rfl) ?_ ?_
      · refine opCall 2 (some 10) (f := 49) (args := ?_) rfl rfl (by kernel_rfl) ?_ ?_
        rotate_left
        · go_simp
          try with_reducible rfl
        refine (HWO.out _).mono ?_
        rintro e v24x ⟨b1, b2, t1, t2, rfl, hb24, xa24, xb24⟩
        have hs24 := hs23.below hb24
        have hn23c := hn23.below hb24
        refine ⟨_, rfl, hs24, ?_⟩
        (try simp only [Act.put, List.setIfInBounds_toArray, List.set_cons_zero, List.set_cons_succ])
        refine any2 3 9 (by kernel_rfl) ?_ ?_
        · refine opCall 3 (some 11) (f := 48) (args := ?_) rfl rfl (by kernel_rfl) ?_ ?_
          rotate_left
          · go_simp
            try with_reducible rfl
          refine (HFA.out _ _ _ _ _ hs24.1 xa24 xb24).mono ?_
          rintro e v25x ⟨rfl, hb25⟩
          have hs25 := hs24.below hb25
          have hn23cc := hn23c.below hb25
          refine ⟨_, rfl, hs25, ?_⟩
          (try simp only [Act.put, List.setIfInBounds_toArray, List.set_cons_zero, List.set_cons_succ])
          refine takeH 4 (some 7) (v := ?_) rfl rfl (by kernel_rfl) (by kernel_rfl) (by kernel_rfl) (fun _ _ _ h => h) (Or.inl ⟨by kernel_rfl, ?_⟩) hs25 ?_
          rotate_left
          · intro w' hSw
            obtain ⟨s0, s1', s2', s3, s4, s5, s6, s7, s8⟩ := hSw.cells
            go_simp
            try with_reducible rfl
          (try simp only [Act.put, List.setIfInBounds_toArray, List.set_cons_zero, List.set_cons_succ])
          refine takeH 5 (some 12) (v := ?_) rfl rfl (by kernel_rfl) (by kernel_rfl) (by kernel_rfl) (fun _ _ _ h => h) (Or.inl ⟨by kernel_rfl, ?_⟩) hs25 ?_
          rotate_left
          · intro w' hSw
            obtain ⟨s0, s1', s2', s3, s4, s5, s6, s7, s8⟩ := hSw.cells
            go_simp
            try with_reducible rfl
          (try simp only [Act.put, List.setIfInBounds_toArray, List.set_cons_zero, List.set_cons_succ])
          refine takeH 6 (some 13) (v := ?_) rfl rfl (by kernel_rfl) (by kernel_rfl) (by kernel_rfl) (fun _ _ _ h => h) (Or.inl ⟨by kernel_rfl, ?_⟩) hs25 ?_
          rotate_left
          · intro w' hSw
            obtain ⟨s0, s1', s2', s3, s4, s5, s6, s7, s8⟩ := hSw.cells
            go_simp
            try with_reducible rfl
          (try simp only [Act.put, List.setIfInBounds_toArray, List.set_cons_zero, List.set_cons_succ])
          refine takeH 7 (some 14) (v := ?_) rfl rfl (by kernel_rfl) (by kernel_rfl) (by kernel_rfl) (fun _ _ _ h => h) (Or.inl ⟨by kernel_rfl, ?_⟩) hs25 ?_
          rotate_left
          · intro w' hSw
            obtain ⟨s0, s1', s2', s3, s4, s5, s6, s7, s8⟩ := hSw.cells
            go_simp
            try with_reducible rfl
          (try simp only [Act.put, List.setIfInBounds_toArray, List.set_cons_zero, List.set_cons_succ])
          refine any1 9 (by kernel_rfl) ?_
          · obtain ⟨v26x, hw26⟩ : ∃ x, v25x.alloc (.cells #[.int .i64 0, .int .i64 0] 24) = x := ⟨_, rfl⟩
            have hb26 : Below v25x.heap.size v25x v26x := by rw [← hw26]; exact bal _ _
            have hn26 : Bx v26x v25x.heap.size (.int .i64 0) (.int .i64 0) := by rw [← hw26]; exact Bx.new v25x _ _
            have hs26 := hs25.below hb26
            have lt26 : w.heap.size + 1 < v25x.heap.size := hs25.room
            refine opRun 9 (some 5) (v := .pointer (some ⟨v25x.heap.size, 0, none⟩)) (w' := v26x) rfl rfl (by kernel_rfl) ?_ ⟨hs26, ?_⟩
            · rw [← hw26]; go_simp
              try rfl
            clear hw26
            (try simp only [Act.put, List.setIfInBounds_toArray, List.set_cons_zero, List.set_cons_succ])
            have ne26 : ¬ wd.heap.size = v25x.heap.size := fun e => absurd hn23cc.lt (by first | (rw [e]; exact Nat.lt_irrefl _) | (rw [← e]; exact Nat.lt_irrefl _))
            have hn23ccb := hn23cc.below hb26
            obtain ⟨pa0, pa1, pf0, pf1⟩ := row2 hn23ccb
            have q27 := (hs26.other lt23 0 (.int .i64 (s1 : Nat))).other lt23 1 (.int .i64 (s2 : Nat))
            have bb4 := hn23ccb.set0 (v := .int .i64 (s1 : Nat))
            have bb4 := bb4.set1 (v := .int .i64 (s2 : Nat))
            have bb5 := (hn26.other (i := 0) (v := .int .i64 (s1 : Nat)) (k := wd.heap.size) (fun e => ne26 e.symm)).other (i := 1) (v := .int .i64 (s2 : Nat)) (k := wd.heap.size) (fun e => ne26 e.symm)
            obtain ⟨x27, hx27⟩ : ∃ x, (v26x.setCell ⟨wd.heap.size, 0, none⟩ (.int .i64 (s1 : Nat))).setCell ⟨wd.heap.size, 1, none⟩ (.int .i64 (s2 : Nat)) = x := ⟨_, rfl⟩
            rw [hx27] at q27 bb4 bb5
            refine storeH 10 (w' := x27) rfl rfl (by kernel_rfl) (by kernel_rfl) ?_ q27 ?_
            · rw [← hx27]; go_simp
              try rfl
            (try simp only [Act.put, List.setIfInBounds_toArray, List.set_cons_zero, List.set_cons_succ])
            clear hx27 pa0 pa1 pf0 pf1
            obtain ⟨pa0, pa1, pf0, pf1⟩ := row2 bb5
            have qq27 := (q27.other lt26 0 (.int .i64 (r1 : Nat))).other lt26 1 (.int .i64 (r2 : Nat))
            have cc5 := bb5.set0 (v := .int .i64 (r1 : Nat))
            have cc5 := cc5.set1 (v := .int .i64 (r2 : Nat))
            have cc4 := (bb4.other (i := 0) (v := .int .i64 (r1 : Nat)) (k := v25x.heap.size) ne26).other (i := 1) (v := .int .i64 (r2 : Nat)) (k := v25x.heap.size) ne26
            obtain ⟨y27, hy27⟩ : ∃ x, (x27.setCell ⟨v25x.heap.size, 0, none⟩ (.int .i64 (r1 : Nat))).setCell ⟨v25x.heap.size, 1, none⟩ (.int .i64 (r2 : Nat)) = x := ⟨_, rfl⟩
            rw [hy27] at qq27 cc4 cc5
            refine storeH 11 (w' := y27) rfl rfl (by kernel_rfl) (by kernel_rfl) ?_ qq27 ?_
            · rw [← hy27]; go_simp
              try rfl
            (try simp only [Act.put, List.setIfInBounds_toArray, List.set_cons_zero, List.set_cons_succ])
            clear hy27 pa0 pa1 pf0 pf1
            refine takeH 12 (some 6) (v := ?_) rfl rfl (by kernel_rfl) (by kernel_rfl) (by kernel_rfl) (fun _ _ _ h => h) (Or.inl ⟨by kernel_rfl, ?_⟩) qq27 ?_
            rotate_left
            · intro w' hSw
              obtain ⟨s0, s1', s2', s3, s4, s5, s6, s7, s8⟩ := hSw.cells
              go_simp
              try with_reducible rfl
            (try simp only [Act.put, List.setIfInBounds_toArray, List.set_cons_zero, List.set_cons_succ])
            refine wpAnyH_done (by kernel_rfl) ?_ _
            have HQ := Lib.hid qq27
            have HC4 := Lib.hid cc4
            have HC5 := Lib.hid cc5
            have HNE : Hid (¬ wd.heap.size = v25x.heap.size ∧ w.heap.size + 1 < wd.heap.size ∧ w.heap.size + 1 < v25x.heap.size) := ⟨ne26, lt23, lt26⟩
            clear qq27 q27 cc4 cc5 bb4 bb5 hn23ccb hn26
            go_wp2_with fail
            go_meet
            exact ⟨_, _, rfl, rfl, rfl, HNE.out, HQ.out, HC4.out, HC5.out⟩
        · obtain ⟨v28x, hw28⟩ : ∃ x, v24x.alloc (.cells #[.int .i64 0, .int .i64 0] 24) = x := ⟨_, rfl⟩
          have hb28 : Below v24x.heap.size v24x v28x := by rw [← hw28]; exact bal _ _
          have hn28 : Bx v28x v24x.heap.size (.int .i64 0) (.int .i64 0) := by rw [← hw28]; exact Bx.new v24x _ _
          have hs28 := hs24.below hb28
          have lt28 : w.heap.size + 1 < v24x.heap.size := hs24.room
          refine opRun 9 (some 5) (v := .pointer (some ⟨v24x.heap.size, 0, none⟩)) (w' := v28x) rfl rfl (by kernel_rfl) ?_ ⟨hs28, ?_⟩
          · rw [← hw28]; go_simp
            try rfl
          clear hw28
          (try simp only [Act.put, List.setIfInBounds_toArray, List.set_cons_zero, List.set_cons_succ])
          have ne28 : ¬ wd.heap.size = v24x.heap.size := fun e => absurd hn23c.lt (by first | (rw [e]; exact Nat.lt_irrefl _) | (rw [← e]; exact Nat.lt_irrefl _))
          have hn23cb := hn23c.below hb28
          have xa28 := (hb28.block _ (Array.getElem?_eq_some_iff.1 xa24).1).trans xa24
          have xb28 := (hb28.block _ (Array.getElem?_eq_some_iff.1 xb24).1).trans xb24
          refine any1 3 (by kernel_rfl) ?_
          · refine opCall 3 (some 11) (f := 48) (args := ?_) rfl rfl (by kernel_rfl) ?_ ?_
            rotate_left
            · go_simp
              try with_reducible rfl
            refine (HFA.out _ _ _ _ _ hs28.1 xa28 xb28).mono ?_
            rintro e v29x ⟨rfl, hb29⟩
            have hs29 := hs28.below hb29
            have hn23cbc := hn23cb.below hb29
            have hn28c := hn28.below hb29
            refine ⟨_, rfl, hs29, ?_⟩
            (try simp only [Act.put, List.setIfInBounds_toArray, List.set_cons_zero, List.set_cons_succ])
            refine takeH 4 (some 7) (v := ?_) rfl rfl (by kernel_rfl) (by kernel_rfl) (by kernel_rfl) (fun _ _ _ h => h) (Or.inl ⟨by kernel_rfl, ?_⟩) hs29 ?_
            rotate_left
            · intro w' hSw
              obtain ⟨s0, s1', s2', s3, s4, s5, s6, s7, s8⟩ := hSw.cells
              go_simp
              try with_reducible rfl
            (try simp only [Act.put, List.setIfInBounds_toArray, List.set_cons_zero, List.set_cons_succ])
            refine takeH 5 (some 12) (v := ?_) rfl rfl (by kernel_rfl) (by kernel_rfl) (by kernel_rfl) (fun _ _ _ h => h) (Or.inl ⟨by kernel_rfl, ?_⟩) hs29 ?_
            rotate_left
            · intro w' hSw
              obtain ⟨s0, s1', s2', s3, s4, s5, s6, s7, s8⟩ := hSw.cells
              go_simp
              try with_reducible rfl
            (try simp only [Act.put, List.setIfInBounds_toArray, List.set_cons_zero, List.set_cons_succ])
            refine takeH 6 (some 13) (v := ?_) rfl rfl (by kernel_rfl) (by kernel_rfl) (by kernel_rfl) (fun _ _ _ h => h) (Or.inl ⟨by kernel_rfl, ?_⟩) hs29 ?_
            rotate_left
            · intro w' hSw
              obtain ⟨s0, s1', s2', s3, s4, s5, s6, s7, s8⟩ := hSw.cells
              go_simp
              try with_reducible rfl
            (try simp only [Act.put, List.setIfInBounds_toArray, List.set_cons_zero, List.set_cons_succ])
            refine takeH 7 (some 14) (v := ?_) rfl rfl (by kernel_rfl) (by kernel_rfl) (by kernel_rfl) (fun _ _ _ h => h) (Or.inl ⟨by kernel_rfl, ?_⟩) hs29 ?_
            rotate_left
            · intro w' hSw
              obtain ⟨s0, s1', s2', s3, s4, s5, s6, s7, s8⟩ := hSw.cells
              go_simp
              try with_reducible rfl
            (try simp only [Act.put, List.setIfInBounds_toArray, List.set_cons_zero, List.set_cons_succ])
            obtain ⟨pa0, pa1, pf0, pf1⟩ := row2 hn23cbc
            have q30 := (hs29.other lt23 0 (.int .i64 (s1 : Nat))).other lt23 1 (.int .i64 (s2 : Nat))
            have bb4 := hn23cbc.set0 (v := .int .i64 (s1 : Nat))
            have bb4 := bb4.set1 (v := .int .i64 (s2 : Nat))
            have bb5 := (hn28c.other (i := 0) (v := .int .i64 (s1 : Nat)) (k := wd.heap.size) (fun e => ne28 e.symm)).other (i := 1) (v := .int .i64 (s2 : Nat)) (k := wd.heap.size) (fun e => ne28 e.symm)
            obtain ⟨x30, hx30⟩ : ∃ x, (v29x.setCell ⟨wd.heap.size, 0, none⟩ (.int .i64 (s1 : Nat))).setCell ⟨wd.heap.size, 1, none⟩ (.int .i64 (s2 : Nat)) = x := ⟨_, rfl⟩
            rw [hx30] at q30 bb4 bb5
            refine storeH 10 (w' := x30) rfl rfl (by kernel_rfl) (by kernel_rfl) ?_ q30 ?_
            · rw [← hx30]; go_simp
              try rfl
            (try simp only [Act.put, List.setIfInBounds_toArray, List.set_cons_zero, List.set_cons_succ])
            clear hx30 pa0 pa1 pf0 pf1
            obtain ⟨pa0, pa1, pf0, pf1⟩ := row2 bb5
            have qq30 := (q30.other lt28 0 (.int .i64 (r1 : Nat))).other lt28 1 (.int .i64 (r2 : Nat))
            have cc5 := bb5.set0 (v := .int .i64 (r1 : Nat))
            have cc5 := cc5.set1 (v := .int .i64 (r2 : Nat))
            have cc4 := (bb4.other (i := 0) (v := .int .i64 (r1 : Nat)) (k := v24x.heap.size) ne28).other (i := 1) (v := .int .i64 (r2 : Nat)) (k := v24x.heap.size) ne28
            obtain ⟨y30, hy30⟩ : ∃ x, (x30.setCell ⟨v24x.heap.size, 0, none⟩ (.int .i64 (r1 : Nat))).setCell ⟨v24x.heap.size, 1, none⟩ (.int .i64 (r2 : Nat)) = x := ⟨_, rfl⟩
            rw [hy30] at qq30 cc4 cc5
            refine storeH 11 (w' := y30) rfl rfl (by kernel_rfl) (by kernel_rfl) ?_ qq30 ?_
            · rw [← hy30]; go_simp
              try rfl
            (try simp only [Act.put, List.setIfInBounds_toArray, List.set_cons_zero, List.set_cons_succ])
            clear hy30 pa0 pa1 pf0 pf1
            refine takeH 12 (some 6) (v := ?_) rfl rfl (by kernel_rfl) (by kernel_rfl) (by kernel_rfl) (fun _ _ _ h => h) (Or.inl ⟨by kernel_rfl, ?_⟩) qq30 ?_
            rotate_left
            · intro w' hSw
              obtain ⟨s0, s1', s2', s3, s4, s5, s6, s7, s8⟩ := hSw.cells
              go_simp
              try with_reducible rfl
            (try simp only [Act.put, List.setIfInBounds_toArray, List.set_cons_zero, List.set_cons_succ])
            refine wpAnyH_done (by kernel_rfl) ?_ _
            have HQ := Lib.hid qq30
            have HC4 := Lib.hid cc4
            have HC5 := Lib.hid cc5
            have HNE : Hid (¬ wd.heap.size = v24x.heap.size ∧ w.heap.size + 1 < wd.heap.size ∧ w.heap.size + 1 < v24x.heap.size) := ⟨ne28, lt23, lt28⟩
            clear qq30 q30 cc4 cc5 bb4 bb5 hn23cbc hn28c
            go_wp2_with fail
            go_meet
            exact ⟨_, _, rfl, rfl, rfl, HNE.out, HQ.out, HC4.out, HC5.out⟩
      · obtain ⟨v31x, hw31⟩ : ∃ x, v23x.alloc (.cells #[.int .i64 0, .int .i64 0] 24) = x := ⟨_, rfl⟩
        have hb31 : Below v23x.heap.size v23x v31x := by rw [← hw31]; exact bal _ _
        have hn31 : Bx v31x v23x.heap.size (.int .i64 0) (.int .i64 0) := by rw [← hw31]; exact Bx.new v23x _ _
        have hs31 := hs23.below hb31
        have lt31 : w.heap.size + 1 < v23x.heap.size := hs23.room
        refine opRun 9 (some 5) (v := .pointer (some ⟨v23x.heap.size, 0, none⟩)) (w' := v31x) rfl rfl (by kernel_rfl) ?_ ⟨hs31, ?_⟩
        · rw [← hw31]; go_simp
          try rfl
        clear hw31
        (try simp only [Act.put, List.setIfInBounds_toArray, List.set_cons_zero, List.set_cons_succ])
        have ne31 : ¬ wd.heap.size = v23x.heap.size := fun e => absurd hn23.lt (by first | (rw [e]; exact Nat.lt_irrefl _) | (rw [← e]; exact Nat.lt_irrefl _))
        have hn23b := hn23.below hb31
        refine any1 2 (by kernel_rfl) ?_
        · refine opCall 2 (some 10) (f := 49) (args := ?_) rfl rfl (by kernel_rfl) ?_ ?_
          rotate_left
          · go_simp
            try with_reducible rfl
          refine (HWO.out _).mono ?_
          rintro e v32x ⟨b1, b2, t1, t2, rfl, hb32, xa32, xb32⟩
          have hs32 := hs31.below hb32
          have hn23bc := hn23b.below hb32
          have hn31c := hn31.below hb32
          refine ⟨_, rfl, hs32, ?_⟩
          (try simp only [Act.put, List.setIfInBounds_toArray, List.set_cons_zero, List.set_cons_succ])
          refine any1 3 (by kernel_rfl) ?_
          · refine opCall 3 (some 11) (f := 48) (args := ?_) rfl rfl (by kernel_rfl) ?_ ?_
            rotate_left
            · go_simp
              try with_reducible rfl
            refine (HFA.out _ _ _ _ _ hs32.1 xa32 xb32).mono ?_
            rintro e v33x ⟨rfl, hb33⟩
            have hs33 := hs32.below hb33
            have hn23bcc := hn23bc.below hb33
            have hn31cc := hn31c.below hb33
            refine ⟨_, rfl, hs33, ?_⟩
            (try simp only [Act.put, List.setIfInBounds_toArray, List.set_cons_zero, List.set_cons_succ])
            refine takeH 4 (some 7) (v := ?_) rfl rfl (by kernel_rfl) (by kernel_rfl) (by kernel_rfl) (fun _ _ _ h => h) (Or.inl ⟨by kernel_rfl, ?_⟩) hs33 ?_
            rotate_left
            · intro w' hSw
              obtain ⟨s0, s1', s2', s3, s4, s5, s6, s7, s8⟩ := hSw.cells
              go_simp
              try with_reducible rfl
            (try simp only [Act.put, List.setIfInBounds_toArray, List.set_cons_zero, List.set_cons_succ])
            refine takeH 5 (some 12) (v := ?_) rfl rfl (by kernel_rfl) (by kernel_rfl) (by kernel_rfl) (fun _ _ _ h => h) (Or.inl ⟨by kernel_rfl, ?_⟩) hs33 ?_
            rotate_left
            · intro w' hSw
              obtain ⟨s0, s1', s2', s3, s4, s5, s6, s7, s8⟩ := hSw.cells
              go_simp
              try with_reducible rfl
            (try simp only [Act.put, List.setIfInBounds_toArray, List.set_cons_zero, List.set_cons_succ])
            refine takeH 6 (some 13) (v := ?_) rfl rfl (by kernel_rfl) (by kernel_rfl) (by kernel_rfl) (fun _ _ _ h => h) (Or.inl ⟨by kernel_rfl, ?_⟩) hs33 ?_
            rotate_left
            · intro w' hSw
              obtain ⟨s0, s1', s2', s3, s4, s5, s6, s7, s8⟩ := hSw.cells
              go_simp
              try with_reducible rfl
            (try simp only [Act.put, List.setIfInBounds_toArray, List.set_cons_zero, List.set_cons_succ])
            refine takeH 7 (some 14) (v := ?_) rfl rfl (by kernel_rfl) (by kernel_rfl) (by kernel_rfl) (fun _ _ _ h => h) (Or.inl ⟨by kernel_rfl, ?_⟩) hs33 ?_
            rotate_left
            · intro w' hSw
              obtain ⟨s0, s1', s2', s3, s4, s5, s6, s7, s8⟩ := hSw.cells
              go_simp
              try with_reducible rfl
            (try simp only [Act.put, List.setIfInBounds_toArray, List.set_cons_zero, List.set_cons_succ])
            obtain ⟨pa0, pa1, pf0, pf1⟩ := row2 hn23bcc
            have q34 := (hs33.other lt23 0 (.int .i64 (s1 : Nat))).other lt23 1 (.int .i64 (s2 : Nat))
            have bb4 := hn23bcc.set0 (v := .int .i64 (s1 : Nat))
            have bb4 := bb4.set1 (v := .int .i64 (s2 : Nat))
            have bb5 := (hn31cc.other (i := 0) (v := .int .i64 (s1 : Nat)) (k := wd.heap.size) (fun e => ne31 e.symm)).other (i := 1) (v := .int .i64 (s2 : Nat)) (k := wd.heap.size) (fun e => ne31 e.symm)
            obtain ⟨x34, hx34⟩ : ∃ x, (v33x.setCell ⟨wd.heap.size, 0, none⟩ (.int .i64 (s1 : Nat))).setCell ⟨wd.heap.size, 1, none⟩ (.int .i64 (s2 : Nat)) = x := ⟨_, rfl⟩
            rw [hx34] at q34 bb4 bb5
            refine storeH 10 (w' := x34) rfl rfl (by kernel_rfl) (by kernel_rfl) ?_ q34 ?_
            · rw [← hx34]; go_simp
              try rfl
            (try simp only [Act.put, List.setIfInBounds_toArray, List.set_cons_zero, List.set_cons_succ])
            clear hx34 pa0 pa1 pf0 pf1
            obtain ⟨pa0, pa1, pf0, pf1⟩ := row2 bb5
            have qq34 := (q34.other lt31 0 (.int .i64 (r1 : Nat))).other lt31 1 (.int .i64 (r2 : Nat))
            have cc5 := bb5.set0 (v := .int .i64 (r1 : Nat))
            have cc5 := cc5.set1 (v := .int .i64 (r2 : Nat))
            have cc4 := (bb4.other (i := 0) (v := .int .i64 (r1 : Nat)) (k := v23x.heap.size) ne31).other (i := 1) (v := .int .i64 (r2 : Nat)) (k := v23x.heap.size) ne31
            obtain ⟨y34, hy34⟩ : ∃ x, (x34.setCell ⟨v23x.heap.size, 0, none⟩ (.int .i64 (r1 : Nat))).setCell ⟨v23x.heap.size, 1, none⟩ (.int .i64 (r2 : Nat)) = x := ⟨_, rfl⟩
            rw [hy34] at qq34 cc4 cc5
            refine storeH 11 (w' := y34) rfl rfl (by kernel_rfl) (by kernel_rfl) ?_ qq34 ?_
            · rw [← hy34]; go_simp
              try rfl
            (try simp only [Act.put, List.setIfInBounds_toArray, List.set_cons_zero, List.set_cons_succ])
            clear hy34 pa0 pa1 pf0 pf1
            refine takeH 12 (some 6) (v := ?_) rfl rfl (by kernel_rfl) (by kernel_rfl) (by kernel_rfl) (fun _ _ _ h => h) (Or.inl ⟨by kernel_rfl, ?_⟩) qq34 ?_
            rotate_left
            · intro w' hSw
              obtain ⟨s0, s1', s2', s3, s4, s5, s6, s7, s8⟩ := hSw.cells
              go_simp
              try with_reducible rfl
            (try simp only [Act.put, List.setIfInBounds_toArray, List.set_cons_zero, List.set_cons_succ])
            refine wpAnyH_done (by kernel_rfl) ?_ _
            have HQ := Lib.hid qq34
            have HC4 := Lib.hid cc4
            have HC5 := Lib.hid cc5
            have HNE : Hid (¬ wd.heap.size = v23x.heap.size ∧ w.heap.size + 1 < wd.heap.size ∧ w.heap.size + 1 < v23x.heap.size) := ⟨ne31, lt23, lt31⟩
            clear qq34 q34 cc4 cc5 bb4 bb5 hn23bcc hn31cc
            go_wp2_with fail
            go_meet
            exact ⟨_, _, rfl, rfl, rfl, HNE.out, HQ.out, HC4.out, HC5.out⟩
    · obtain ⟨v35x, hw35⟩ : ∃ x, wd.alloc (.cells #[.int .i64 0, .int .i64 0] 24) = x := ⟨_, rfl⟩
      have hb35 : Below wd.heap.size wd v35x := by rw [← hw35]; exact bal _ _
      have hn35 : Bx v35x wd.heap.size (.int .i64 0) (.int .i64 0) := by rw [← hw35]; exact Bx.new wd _ _
      have hs35 := hHeld.below hb35
      have lt35 : w.heap.size + 1 < wd.heap.size := hHeld.room
      refine opRun 9 (some 5) (v := .pointer (some ⟨wd.heap.size, 0, none⟩)) (w' := v35x) rfl rfl (by kernel_rfl) ?_ ⟨hs35, ?_⟩
      · rw [← hw35]; go_simp
        try rfl
      clear hw35
      (try simp only [Act.put, List.setIfInBounds_toArray, List.set_cons_zero, List.set_cons_succ])
      refine any2 2 8 (by kernel_rfl) ?_ ?_
      · refine opCall 2 (some 10) (f := 49) (args := ?_) rfl rfl (by kernel_rfl) ?_ ?_
        rotate_left
        · go_simp
          try with_reducible rfl
        refine (HWO.out _).mono ?_
        rintro e v36x ⟨b1, b2, t1, t2, rfl, hb36, xa36, xb36⟩
        have hs36 := hs35.below hb36
        have hn35c := hn35.below hb36
        refine ⟨_, rfl, hs36, ?_⟩
        (try simp only [Act.put, List.setIfInBounds_toArray, List.set_cons_zero, List.set_cons_succ])
        refine any2 3 8 (by kernel_rfl) ?_ ?_
        · refine opCall 3 (some 11) (f := 48) (args := ?_) rfl rfl (by kernel_rfl) ?_ ?_
          rotate_left
          · go_simp
            try with_reducible rfl
          refine (HFA.out _ _ _ _ _ hs36.1 xa36 xb36).mono ?_
          rintro e v37x ⟨rfl, hb37⟩
          have hs37 := hs36.below hb37
          have hn35cc := hn35c.below hb37
          refine ⟨_, rfl, hs37, ?_⟩
          (try simp only [Act.put, List.setIfInBounds_toArray, List.set_cons_zero, List.set_cons_succ])
          refine takeH 4 (some 7) (v := ?_) rfl rfl (by kernel_rfl) (by kernel_rfl) (by kernel_rfl) (fun _ _ _ h => h) (Or.inl ⟨by kernel_rfl, ?_⟩) hs37 ?_
          rotate_left
          · intro w' hSw
            obtain ⟨s0, s1', s2', s3, s4, s5, s6, s7, s8⟩ := hSw.cells
            go_simp
            try with_reducible rfl
          (try simp only [Act.put, List.setIfInBounds_toArray, List.set_cons_zero, List.set_cons_succ])
          refine takeH 5 (some 12) (v := ?_) rfl rfl (by kernel_rfl) (by kernel_rfl) (by kernel_rfl) (fun _ _ _ h => h) (Or.inl ⟨by kernel_rfl, ?_⟩) hs37 ?_
          rotate_left
          · intro w' hSw
            obtain ⟨s0, s1', s2', s3, s4, s5, s6, s7, s8⟩ := hSw.cells
            go_simp
            try with_reducible rfl
          (try simp only [Act.put, List.setIfInBounds_toArray, List.set_cons_zero, List.set_cons_succ])
          refine takeH 6 (some 13) (v := ?_) rfl rfl (by kernel_rfl) (by kernel_rfl) (by kernel_rfl) (fun _ _ _ h => h) (Or.inl ⟨by kernel_rfl, ?_⟩) hs37 ?_
          rotate_left
          · intro w' hSw
            obtain ⟨s0, s1', s2', s3, s4, s5, s6, s7, s8⟩ := hSw.cells
            go_simp
            try with_reducible rfl
          (try simp only [Act.put, List.setIfInBounds_toArray, List.set_cons_zero, List.set_cons_succ])
          refine takeH 7 (some 14) (v := ?_) rfl rfl (by kernel_rfl) (by kernel_rfl) (by kernel_rfl) (fun _ _ _ h => h) (Or.inl ⟨by kernel_rfl, ?_⟩) hs37 ?_
          rotate_left
          · intro w' hSw
            obtain ⟨s0, s1', s2', s3, s4, s5, s6, s7, s8⟩ := hSw.cells
            go_simp
            try with_reducible rfl
          (try simp only [Act.put, List.setIfInBounds_toArray, List.set_cons_zero, List.set_cons_succ])
          refine any1 8 (by kernel_rfl) ?_
          · obtain ⟨v38x, hw38⟩ : ∃ x, v37x.alloc (.cells #[.int .i64 0, .int .i64 0] 24) = x := ⟨_, rfl⟩
            have hb38 : Below v37x.heap.size v37x v38x := by rw [← hw38]; exact bal _ _
            have hn38 : Bx v38x v37x.heap.size (.int .i64 0) (.int .i64 0) := by rw [← hw38]; exact Bx.new v37x _ _
            have hs38 := hs37.below hb38
            have lt38 : w.heap.size + 1 < v37x.heap.size := hs37.room
            refine opRun 8 (some 4) (v := .pointer (some ⟨v37x.heap.size, 0, none⟩)) (w' := v38x) rfl rfl (by kernel_rfl) ?_ ⟨hs38, ?_⟩
            · rw [← hw38]; go_simp
              try rfl
            clear hw38
            (try simp only [Act.put, List.setIfInBounds_toArray, List.set_cons_zero, List.set_cons_succ])
            have ne38 : ¬ v37x.heap.size = wd.heap.size := fun e => absurd hn35cc.lt (by first | (rw [e]; exact Nat.lt_irrefl _) | (rw [← e]; exact Nat.lt_irrefl _))
            have hn35ccb := hn35cc.below hb38
            obtain ⟨pa0, pa1, pf0, pf1⟩ := row2 hn38
            have q39 := (hs38.other lt38 0 (.int .i64 (s1 : Nat))).other lt38 1 (.int .i64 (s2 : Nat))
            have bb4 := hn38.set0 (v := .int .i64 (s1 : Nat))
            have bb4 := bb4.set1 (v := .int .i64 (s2 : Nat))
            have bb5 := (hn35ccb.other (i := 0) (v := .int .i64 (s1 : Nat)) (k := v37x.heap.size) (fun e => ne38 e.symm)).other (i := 1) (v := .int .i64 (s2 : Nat)) (k := v37x.heap.size) (fun e => ne38 e.symm)
            obtain ⟨x39, hx39⟩ : ∃ x, (v38x.setCell ⟨v37x.heap.size, 0, none⟩ (.int .i64 (s1 : Nat))).setCell ⟨v37x.heap.size, 1, none⟩ (.int .i64 (s2 : Nat)) = x := ⟨_, rfl⟩
            rw [hx39] at q39 bb4 bb5
            refine storeH 10 (w' := x39) rfl rfl (by kernel_rfl) (by kernel_rfl) ?_ q39 ?_
            · rw [← hx39]; go_simp
              try rfl
            (try simp only [Act.put, List.setIfInBounds_toArray, List.set_cons_zero, List.set_cons_succ])
            clear hx39 pa0 pa1 pf0 pf1
            obtain ⟨pa0, pa1, pf0, pf1⟩ := row2 bb5
            have qq39 := (q39.other lt35 0 (.int .i64 (r1 : Nat))).other lt35 1 (.int .i64 (r2 : Nat))
            have cc5 := bb5.set0 (v := .int .i64 (r1 : Nat))
            have cc5 := cc5.set1 (v := .int .i64 (r2 : Nat))
            have cc4 := (bb4.other (i := 0) (v := .int .i64 (r1 : Nat)) (k := wd.heap.size) ne38).other (i := 1) (v := .int .i64 (r2 : Nat)) (k := wd.heap.size) ne38
            obtain ⟨y39, hy39⟩ : ∃ x, (x39.setCell ⟨wd.heap.size, 0, none⟩ (.int .i64 (r1 : Nat))).setCell ⟨wd.heap.size, 1, none⟩ (.int .i64 (r2 : Nat)) = x := ⟨_, rfl⟩
            rw [hy39] at qq39 cc4 cc5
            refine storeH 11 (w' := y39) rfl rfl (by kernel_rfl) (by kernel_rfl) ?_ qq39 ?_
            · rw [← hy39]; go_simp
              try rfl
            (try simp only [Act.put, List.setIfInBounds_toArray, List.set_cons_zero, List.set_cons_succ])
            clear hy39 pa0 pa1 pf0 pf1
            refine takeH 12 (some 6) (v := ?_) rfl rfl (by kernel_rfl) (by kernel_rfl) (by kernel_rfl) (fun _ _ _ h => h) (Or.inl ⟨by kernel_rfl, ?_⟩) qq39 ?_
            rotate_left
            · intro w' hSw
              obtain ⟨s0, s1', s2', s3, s4, s5, s6, s7, s8⟩ := hSw.cells
              go_simp
              try with_reducible rfl
            (try simp only [Act.put, List.setIfInBounds_toArray, List.set_cons_zero, List.set_cons_succ])
            refine wpAnyH_done (by kernel_rfl) ?_ _
            have HQ := Lib.hid qq39
            have HC4 := Lib.hid cc4
            have HC5 := Lib.hid cc5
            have HNE : Hid (¬ v37x.heap.size = wd.heap.size ∧ w.heap.size + 1 < v37x.heap.size ∧ w.heap.size + 1 < wd.heap.size) := ⟨ne38, lt38, lt35⟩
            clear qq39 q39 cc4 cc5 bb4 bb5 hn38 hn35ccb
            go_wp2_with fail
            go_meet
            exact ⟨_, _, rfl, rfl, rfl, HNE.out, HQ.out, HC4.out, HC5.out⟩
        · obtain ⟨v40x, hw40⟩ : ∃ x, v36x.alloc (.cells #[.int .i64 0, .int .i64 0] 24) = x := ⟨_, rfl⟩
          have hb40 : Below v36x.heap.size v36x v40x := by rw [← hw40]; exact bal _ _
          have hn40 : Bx v40x v36x.heap.size (.int .i64 0) (.int .i64 0) := by rw [← hw40]; exact Bx.new v36x _ _
          have hs40 := hs36.below hb40
          have lt40 : w.heap.size + 1 < v36x.heap.size := hs36.room
          refine opRun 8 (some 4) (v := .pointer (some ⟨v36x.heap.size, 0, none⟩)) (w' := v40x) rfl rfl (by kernel_rfl) ?_ ⟨hs40, ?_⟩
          · rw [← hw40]; go_simp
            try rfl
          clear hw40
          (try simp only [Act.put, List.setIfInBounds_toArray, List.set_cons_zero, List.set_cons_succ])
          have ne40 : ¬ v36x.heap.size = wd.heap.size := fun e => absurd hn35c.lt (by first | (rw [e]; exact Nat.lt_irrefl _) | (rw [← e]; exact Nat.lt_irrefl _))
          have hn35cb := hn35c.below hb40
          have xa40 := (hb40.block _ (Array.getElem?_eq_some_iff.1 xa36).1).trans xa36
          have xb40 := (hb40.block _ (Array.getElem?_eq_some_iff.1 xb36).1).trans xb36
          refine any1 3 (by kernel_rfl) ?_
          · refine opCall 3 (some 11) (f := 48) (args := ?_) rfl rfl (by kernel_rfl) ?_ ?_
            rotate_left
            · go_simp
              try with_reducible rfl
            refine (HFA.out _ _ _ _ _ hs40.1 xa40 xb40).mono ?_
            rintro e v41x ⟨rfl, hb41⟩
            have hs41 := hs40.below hb41
            have hn40c := hn40.below hb41
            have hn35cbc := hn35cb.below hb41
            refine ⟨_, rfl, hs41, ?_⟩
            (try simp only [Act.put, List.setIfInBounds_toArray, List.set_cons_zero, List.set_cons_succ])
            refine takeH 4 (some 7) (v := ?_) rfl rfl (by kernel_rfl) (by kernel_rfl) (by kernel_rfl) (fun _ _ _ h => h) (Or.inl ⟨by kernel_rfl, ?_⟩) hs41 ?_
            rotate_left
            · intro w' hSw
              obtain ⟨s0, s1', s2', s3, s4, s5, s6, s7, s8⟩ := hSw.cells
              go_simp
              try with_reducible rfl
            (try simp only [Act.put, List.setIfInBounds_toArray, List.set_cons_zero, List.set_cons_succ])
            refine takeH 5 (some 12) (v := ?_) rfl rfl (by kernel_rfl) (by kernel_rfl) (by kernel_rfl) (fun _ _ _ h => h) (Or.inl ⟨by kernel_rfl, ?_⟩) hs41 ?_
            rotate_left
            · intro w' hSw
              obtain ⟨s0, s1', s2', s3, s4, s5, s6, s7, s8⟩ := hSw.cells
              go_simp
              try with_reducible rfl
            (try simp only [Act.put, List.setIfInBounds_toArray, List.set_cons_zero, List.set_cons_succ])
            refine takeH 6 (some 13) (v := ?_) rfl rfl (by kernel_rfl) (by kernel_rfl) (by kernel_rfl) (fun _ _ _ h => h) (Or.inl ⟨by kernel_rfl, ?_⟩) hs41 ?_
            rotate_left
            · intro w' hSw
              obtain ⟨s0, s1', s2', s3, s4, s5, s6, s7, s8⟩ := hSw.cells
              go_simp
              try with_reducible rfl
            (try simp only [Act.put, List.setIfInBounds_toArray, List.set_cons_zero, List.set_cons_succ])
            refine takeH 7 (some 14) (v := ?_) rfl rfl (by kernel_rfl) (by kernel_rfl) (by kernel_rfl) (fun _ _ _ h => h) (Or.inl ⟨by kernel_rfl, ?_⟩) hs41 ?_
            rotate_left
            · intro w' hSw
              obtain ⟨s0, s1', s2', s3, s4, s5, s6, s7, s8⟩ := hSw.cells
              go_simp
              try with_reducible rfl
            (try simp only [Act.put, List.setIfInBounds_toArray, List.set_cons_zero, List.set_cons_succ])
            obtain ⟨pa0, pa1, pf0, pf1⟩ := row2 hn40c
            have q42 := (hs41.other lt40 0 (.int .i64 (s1 : Nat))).other lt40 1 (.int .i64 (s2 : Nat))
            have bb4 := hn40c.set0 (v := .int .i64 (s1 : Nat))
            have bb4 := bb4.set1 (v := .int .i64 (s2 : Nat))
            have bb5 := (hn35cbc.other (i := 0) (v := .int .i64 (s1 : Nat)) (k := v36x.heap.size) (fun e => ne40 e.symm)).other (i := 1) (v := .int .i64 (s2 : Nat)) (k := v36x.heap.size) (fun e => ne40 e.symm)
            obtain ⟨x42, hx42⟩ : ∃ x, (v41x.setCell ⟨v36x.heap.size, 0, none⟩ (.int .i64 (s1 : Nat))).setCell ⟨v36x.heap.size, 1, none⟩ (.int .i64 (s2 : Nat)) = x := ⟨_, rfl⟩
            rw [hx42] at q42 bb4 bb5
            refine storeH 10 (w' := x42) rfl rfl (by kernel_rfl) (by kernel_rfl) ?_ q42 ?_
            · rw [← hx42]; go_simp
              try rfl
            (try simp only [Act.put, List.setIfInBounds_toArray, List.set_cons_zero, List.set_cons_succ])
            clear hx42 pa0 pa1 pf0 pf1
            obtain ⟨pa0, pa1, pf0, pf1⟩ := row2 bb5
            have qq42 := (q42.other lt35 0 (.int .i64 (r1 : Nat))).other lt35 1 (.int .i64 (r2 : Nat))
            have cc5 := bb5.set0 (v := .int .i64 (r1 : Nat))
            have cc5 := cc5.set1 (v := .int .i64 (r2 : Nat))
            have cc4 := (bb4.other (i := 0) (v := .int .i64 (r1 : Nat)) (k := wd.heap.size) ne40).other (i := 1) (v := .int .i64 (r2 : Nat)) (k := wd.heap.size) ne40
            obtain ⟨y42, hy42⟩ : ∃ x, (x42.setCell ⟨wd.heap.size, 0, none⟩ (.int .i64 (r1 : Nat))).setCell ⟨wd.heap.size, 1, none⟩ (.int .i64 (r2 : Nat)) = x := ⟨_, rfl⟩
            rw [hy42] at qq42 cc4 cc5
            refine storeH 11 (w' := y42) rfl rfl (by kernel_rfl) (by kernel_rfl) ?_ qq42 ?_
            · rw [← hy42]; go_simp
              try rfl
            (try simp only [Act.put, List.setIfInBounds_toArray, List.set_cons_zero, List.set_cons_succ])
            clear hy42 pa0 pa1 pf0 pf1
            refine takeH 12 (some 6) (v := ?_) rfl rfl (by kernel_rfl) (by kernel_rfl) (by kernel_rfl) (fun _ _ _ h => h) (Or.inl ⟨by kernel_rfl, ?_⟩) qq42 ?_
            rotate_left
            · intro w' hSw
              obtain ⟨s0, s1', s2', s3, s4, s5, s6, s7, s8⟩ := hSw.cells
              go_simp
              try with_reducible rfl
            (try simp only [Act.put, List.setIfInBounds_toArray, List.set_cons_zero, List.set_cons_succ])
            refine wpAnyH_done (by kernel_rfl) ?_ _
            have HQ := Lib.hid qq42
            have HC4 := Lib.hid cc4
            have HC5 := Lib.hid cc5
            have HNE : Hid (¬ v36x.heap.size = wd.heap.size ∧ w.heap.size + 1 < v36x.heap.size ∧ w.heap.size + 1 < wd.heap.size) := ⟨ne40, lt40, lt35⟩
            clear qq42 q42 cc4 cc5 bb4 bb5 hn40c hn35cbc
            go_wp2_with fail
            go_meet
            exact ⟨_, _, rfl, rfl, rfl, HNE.out, HQ.out, HC4.out, HC5.out⟩
      · obtain ⟨v43x, hw43⟩ : ∃ x, v35x.alloc (.cells #[.int .i64 0, .int .i64 0] 24) = x := ⟨_, rfl⟩
        have hb43 : Below v35x.heap.size v35x v43x := by rw [← hw43]; exact bal _ _
        have hn43 : Bx v43x v35x.heap.size (.int .i64 0) (.int .i64 0) := by rw [← hw43]; exact Bx.new v35x _ _
        have hs43 := hs35.below hb43
        have lt43 : w.heap.size + 1 < v35x.heap.size := hs35.room
        refine opRun 8 (some 4) (v := .pointer (some ⟨v35x.heap.size, 0, none⟩)) (w' := v43x) rfl rfl (by kernel_rfl) ?_ ⟨hs43, ?_⟩
        · rw [← hw43]; go_simp
          try rfl
        clear hw43
        (try simp only [Act.put, List.setIfInBounds_toArray, List.set_cons_zero, List.set_cons_succ])
        have ne43 : ¬ v35x.heap.size = wd.heap.size := fun e => absurd hn35.lt (by first | (rw [e]; exact Nat.lt_irrefl _) | (rw [← e]; exact Nat.lt_irrefl _))
        have hn35b := hn35.below hb43
        refine any1 2 (by kernel_rfl) ?_
        · refine opCall 2 (some 10) (f := 49) (args := ?_) rfl rfl (by kernel_rfl) ?_ ?_
          rotate_left
          · go_simp
            try with_reducible rfl
          refine (HWO.out _).mono ?_
          rintro e v44x ⟨b1, b2, t1, t2, rfl, hb44, xa44, xb44⟩
          have hs44 := hs43.below hb44
          have hn43c := hn43.below hb44
          have hn35bc := hn35b.below hb44
          refine ⟨_, rfl, hs44, ?_⟩
          (try simp only [Act.put, List.setIfInBounds_toArray, List.set_cons_zero, List.set_cons_succ])
          refine any1 3 (by kernel_rfl) ?_
          · refine opCall 3 (some 11) (f := 48) (args := ?_) rfl rfl (by kernel_rfl) ?_ ?_
            rotate_left
            · go_simp
              try with_reducible rfl
            refine (HFA.out _ _ _ _ _ hs44.1 xa44 xb44).mono ?_
            rintro e v45x ⟨rfl, hb45⟩
            have hs45 := hs44.below hb45
            have hn43cc := hn43c.below hb45
            have hn35bcc := hn35bc.below hb45
            refine ⟨_, rfl, hs45, ?_⟩
            (try simp only [Act.put, List.setIfInBounds_toArray, List.set_cons_zero, List.set_cons_succ])
            refine takeH 4 (some 7) (v := ?_) rfl rfl (by kernel_rfl) (by kernel_rfl) (by kernel_rfl) (fun _ _ _ h => h) (Or.inl ⟨by kernel_rfl, ?_⟩) hs45 ?_
            rotate_left
            · intro w' hSw
              obtain ⟨s0, s1', s2', s3, s4, s5, s6, s7, s8⟩ := hSw.cells
              go_simp
              try with_reducible rfl
            (try simp only [Act.put, List.setIfInBounds_toArray, List.set_cons_zero, List.set_cons_succ])
            refine takeH 5 (some 12) (v := ?_) rfl rfl (by kernel_rfl) (by kernel_rfl) (by kernel_rfl) (fun _ _ _ h => h) (Or.inl ⟨by kernel_rfl, ?_⟩) hs45 ?_
            rotate_left
            · intro w' hSw
              obtain ⟨s0, s1', s2', s3, s4, s5, s6, s7, s8⟩ := hSw.cells
              go_simp
              try with_reducible rfl
            (try simp only [Act.put, List.setIfInBounds_toArray, List.set_cons_zero, List.set_cons_succ])
            refine takeH 6 (some 13) (v := ?_) rfl rfl (by kernel_rfl) (by kernel_rfl) (by kernel_rfl) (fun _ _ _ h => h) (Or.inl ⟨by kernel_rfl, ?_⟩) hs45 ?_
            rotate_left
            · intro w' hSw
              obtain ⟨s0, s1', s2', s3, s4, s5, s6, s7, s8⟩ := hSw.cells
              go_simp
              try with_reducible rfl
            (try simp only [Act.put, List.setIfInBounds_toArray, List.set_cons_zero, List.set_cons_succ])
            refine takeH 7 (some 14) (v := ?_) rfl rfl (by kernel_rfl) (by kernel_rfl) (by kernel_rfl) (fun _ _ _ h => h) (Or.inl ⟨by kernel_rfl, ?_⟩) hs45 ?_
            rotate_left
            · intro w' hSw
              obtain ⟨s0, s1', s2', s3, s4, s5, s6, s7, s8⟩ := hSw.cells
              go_simp
              try with_reducible rfl
            (try simp only [Act.put, List.setIfInBounds_toArray, List.set_cons_zero, List.set_cons_succ])
            obtain ⟨pa0, pa1, pf0, pf1⟩ := row2 hn43cc
            have q46 := (hs45.other lt43 0 (.int .i64 (s1 : Nat))).other lt43 1 (.int .i64 (s2 : Nat))
            have bb4 := hn43cc.set0 (v := .int .i64 (s1 : Nat))
            have bb4 := bb4.set1 (v := .int .i64 (s2 : Nat))
            have bb5 := (hn35bcc.other (i := 0) (v := .int .i64 (s1 : Nat)) (k := v35x.heap.size) (fun e => ne43 e.symm)).other (i := 1) (v := .int .i64 (s2 : Nat)) (k := v35x.heap.size) (fun e => ne43 e.symm)
            obtain ⟨x46, hx46⟩ : ∃ x, (v45x.setCell ⟨v35x.heap.size, 0, none⟩ (.int .i64 (s1 : Nat))).setCell ⟨v35x.heap.size, 1, none⟩ (.int .i64 (s2 : Nat)) = x := ⟨_, rfl⟩
            rw [hx46] at q46 bb4 bb5
            refine storeH 10 (w' := x46) rfl rfl (by kernel_rfl) (by kernel_rfl) ?_ q46 ?_
            · rw [← hx46]; go_simp
              try rfl
            (try simp only [Act.put, List.setIfInBounds_toArray, List.set_cons_zero, List.set_cons_succ])
            clear hx46 pa0 pa1 pf0 pf1
            obtain ⟨pa0, pa1, pf0, pf1⟩ := row2 bb5
            have qq46 := (q46.other lt35 0 (.int .i64 (r1 : Nat))).other lt35 1 (.int .i64 (r2 : Nat))
            have cc5 := bb5.set0 (v := .int .i64 (r1 : Nat))
            have cc5 := cc5.set1 (v := .int .i64 (r2 : Nat))
            have cc4 := (bb4.other (i := 0) (v := .int .i64 (r1 : Nat)) (k := wd.heap.size) ne43).other (i := 1) (v := .int .i64 (r2 : Nat)) (k := wd.heap.size) ne43
            obtain ⟨y46, hy46⟩ : ∃ x, (x46.setCell ⟨wd.heap.size, 0, none⟩ (.int .i64 (r1 : Nat))).setCell ⟨wd.heap.size, 1, none⟩ (.int .i64 (r2 : Nat)) = x := ⟨_, rfl⟩
            rw [hy46] at qq46 cc4 cc5
            refine storeH 11 (w' := y46) rfl rfl (by kernel_rfl) (by kernel_rfl) ?_ qq46 ?_
            · rw [← hy46]; go_simp
              try rfl
            (try simp only [Act.put, List.setIfInBounds_toArray, List.set_cons_zero, List.set_cons_succ])
            clear hy46 pa0 pa1 pf0 pf1
            refine takeH 12 (some 6) (v := ?_) rfl rfl (by kernel_rfl) (by kernel_rfl) (by kernel_rfl) (fun _ _ _ h => h) (Or.inl ⟨by kernel_rfl, ?_⟩) qq46 ?_
            rotate_left
            · intro w' hSw
              obtain ⟨s0, s1', s2', s3, s4, s5, s6, s7, s8⟩ := hSw.cells
              go_simp
              try with_reducible rfl
            (try simp only [Act.put, List.setIfInBounds_toArray, List.set_cons_zero, List.set_cons_succ])
            refine wpAnyH_done (by kernel_rfl) ?_ _
            have HQ := Lib.hid qq46
            have HC4 := Lib.hid cc4
            have HC5 := Lib.hid cc5
            have HNE : Hid (¬ v35x.heap.size = wd.heap.size ∧ w.heap.size + 1 < v35x.heap.size ∧ w.heap.size + 1 < wd.heap.size) := ⟨ne43, lt43, lt35⟩
            clear qq46 q46 cc4 cc5 bb4 bb5 hn43cc hn35bcc
            go_wp2_with fail
            go_meet
            exact ⟨_, _, rfl, rfl, rfl, HNE.out, HQ.out, HC4.out, HC5.out⟩
  case rest =>
    obtain ⟨g4, g5, rfl, rfl, rfl, HNE, HA, HC4, HC5⟩ := hcut
    obtain ⟨x0, x1, x2, x3, x4, x5, x6, x7, x8⟩ := HA.out.cells
    obtain ⟨pv0, pv1, pc0, pc1, pz0, pz1⟩ := HA.out.pos
    obtain ⟨c40, c41, -, -⟩ := row2 HC4.out
    obtain ⟨c50, c51, f50, f51⟩ := row2 HC5.out
    have e1 : wc.cell? ⟨b, off + s1, none⟩ = some (.slice ra m rc) := (HA.out.1.cell (p := ⟨b, off + s1, none⟩) hbl).trans e0
    have d5 : ¬ (s1 : Int) < 0 := by omega
    have d6 : decide ((s1 : Int) < 0) = false := by simp
    have n5 : ¬ g5 = w.heap.size + 1 := by have := HNE.out.2.2; omega
    have n6 : ¬ w.heap.size + 1 = g5 := by have := HNE.out.2.2; omega
    have n7 : ¬ g4 = g5 := HNE.out.1
    have n8 : ¬ g5 = g4 := fun e => n7 e.symm
    by_cases ho : op = true
    · subst ho
      by_cases hr : r1 = s1
      · have e2 : ((r1 : Int) != (s1 : Int)) = false := by simp [hr]
        have HRV : Hid (nwP L true ((r1, r2), (s1, s2)) = (r1, r2)) := by
          show _ = _
          unfold nwP
          rw [if_neg (fun h => h.2 hr)]
        subst hr
        go_wp2_with fail
        refine bodyPost_ret (v := .tuple #[.agg #[.int .i64 (r1 : Nat), .int .i64 (r2 : Nat)], .bool mv]) ?_ rfl ⟨by rw [HRV.out]; rfl, ?_⟩
        · rw [results_ct rfl]
          go_simp
        · exact (HA.out.store _ _).1
      · have e2 : ((r1 : Int) != (s1 : Int)) = true := by simp; omega
        have e3 : ¬ (r1 : Int) = (s1 : Int) := by omega
        have HRV : Hid (nwP L true ((r1, r2), (s1, s2)) = (s1, m)) := by
          show _ = _
          unfold nwP
          rw [if_pos ⟨rfl, hr⟩, ← HM.out]
        clear hr
        go_wp2_with fail
        go_region
        all_goals
          go_wp2_with fail
          refine bodyPost_ret (v := .tuple #[.agg #[.int .i64 (s1 : Nat), .int .i64 (m : Nat)], .bool mv]) ?_ rfl ⟨by rw [HRV.out]; rfl, ?_⟩
          · rw [results_ct rfl]
            go_simp
          · first
              | with_reducible exact AkS.blw (((HA.out.other HNE.out.2.2 0 _).other HNE.out.2.2 1 _).store _ _)
              | with_reducible exact AkS.blw (((HA.out.other HNE.out.2.2 0 _).other HNE.out.2.2 1 _).drew.store _ _)
              | with_reducible exact AkS.blw (((HA.out.drew.other HNE.out.2.2 0 _).other HNE.out.2.2 1 _).store _ _)
    · have ho : op = false := by simpa using ho
      subst ho
      have HRV : Hid (nwP L false ((r1, r2), (s1, s2)) = (r1, r2)) := by
        show _ = _
        unfold nwP
        rw [if_neg (fun h => by cases h.1)]
      go_wp2_with fail
      refine bodyPost_ret (v := .tuple #[.agg #[.int .i64 (r1 : Nat), .int .i64 (r2 : Nat)], .bool mv]) ?_ rfl ⟨by rw [HRV.out]; rfl, ?_⟩
      · rw [results_ct rfl]
        go_simp
      · exact (HA.out.store _ _).1
end Go.Proofs.Ytikdojebnbmpoaa.U
