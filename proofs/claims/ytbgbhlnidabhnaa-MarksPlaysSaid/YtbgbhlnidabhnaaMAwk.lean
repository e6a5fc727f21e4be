/-
  The law's awake.
-/
import Derived.Test.YtbgbhlnidabhnaaMBack
namespace Go.Proofs.Ytbgbhlnidabhnaa.U
open Go.RowKit
set_option linter.unusedVariables false
set_option linter.unusedSimpArgs false
set_option maxRecDepth 100000

/-- marks since block B, and places in blocks of their own beside them -/
def Aw (B : Nat) (hs : List (Nat × Po)) (w : World) (bt : Nat) (s : Ms) : Prop :=
  B ≤ w.heap.size ∧ ∃ P, MkS P w bt s ∧ (∀ k, P k → B ≤ k ∧ ∀ x ∈ hs, x.1 ≠ k) ∧ ∀ x ∈ hs, w.heap[x.1]? = some (.cells #[.int .i64 x.2.l, .int .i64 x.2.c] 23 (0, 0))
section
variable {B : Nat} {hs : List (Nat × Po)} {w w' : World} {bt : Nat} {s s' : Ms}
theorem Aw.get (h : Aw B hs w bt s) {k : Nat} {q : Po} (hk : (k, q) ∈ hs) : w.cell? ⟨k, 0, none⟩ = some (.int .i64 q.l) ∧ w.cell? ⟨k, 1, none⟩ = some (.int .i64 q.c) := by
  obtain ⟨hB, P, h1, h2, h3⟩ := h
  have := h3 _ hk
  exact ⟨by rw [cell_row this]; rfl, by rw [cell_row this]; rfl⟩
theorem Aw.stepP {P : Nat → Prop} (h1 : MkS P w bt s) (h2 : ∀ k, P k → B ≤ k ∧ ∀ x ∈ hs, x.1 ≠ k) (h3 : ∀ x ∈ hs, w.heap[x.1]? = some (.cells #[.int .i64 x.2.l, .int .i64 x.2.c] 23 (0, 0))) (hB : B ≤ w.heap.size) (ha : AfM P w w' bt s') : Aw B hs w' bt s' ∧ Below B w w' := by
  obtain ⟨P', a1, a2, a3⟩ := ha
  refine ⟨⟨Nat.le_trans hB a2.size, P', a1, fun k hk => ?_, fun x hx => ?_⟩, a2.below hB (fun k hk => (h2 k hk).1)⟩
  · rcases a3 k hk with h | h
    · exact h2 k h
    · refine ⟨by omega, fun x hx e => ?_⟩
      have := heap_lt (h3 x hx)
      omega
  · rw [a2.block _ (heap_lt (h3 x hx)) (fun hk => (h2 _ hk).2 x hx rfl)]
    exact h3 x hx
theorem Aw.below (h : Aw B hs w bt s) (hb : Below w.heap.size w w') : Aw B hs w' bt s := by
  obtain ⟨hB, P, h1, h2, h3⟩ := h
  exact (Aw.stepP h1 h2 h3 hB (h1.same hb)).1
theorem Aw.more (h : Aw B hs w bt s) (q : Po) : Aw B ((w.heap.size, q) :: hs) (w.alloc (.cells #[.int .i64 q.l, .int .i64 q.c] 23)) bt s := by
  have hb : Below w.heap.size w (w.alloc (.cells #[.int .i64 q.l, .int .i64 q.c] 23)) := (Below.refl _ w).alloc (Nat.le_refl _) _
  obtain ⟨hB, P, h1, h2, h3⟩ := h
  refine ⟨by simp; omega, P, h1.below hb, fun k hk => ⟨(h2 k hk).1, fun x hx => ?_⟩, fun x hx => ?_⟩
  · rcases List.mem_cons.1 hx with rfl | hx
    · have := h1.lt k hk
      simp only
      omega
    · exact (h2 k hk).2 x hx
  · rcases List.mem_cons.1 hx with rfl | hx
    · exact heap_alloc_new w _
    · rw [hb.block _ (heap_lt (h3 x hx))]
      exact h3 x hx
theorem Aw.fresh {P : Nat → Prop} (h : MkS P w bt s) (hP : ∀ k, P k → B ≤ k) : Aw B [] w bt s := ⟨by
  obtain ⟨_, _, _, _, _, q1, _, _, _, p1, _⟩ := h
  have := heap_lt q1
  have := hP _ p1
  omega, P, h, fun k hk => ⟨hP k hk, fun x hx => by cases hx⟩, fun x hx => by cases hx⟩
/-- a place held beside marks that are new -/
theorem Aw.hold (h : Aw B hs w bt s) {k : Nat} {q : Po} (hg : w.heap[k]? = some (.cells #[.int .i64 q.l, .int .i64 q.c] 23 (0, 0))) (hk : k < B) : Aw B ((k, q) :: hs) w bt s := by
  obtain ⟨hB, P, h1, h2, h3⟩ := h
  refine ⟨hB, P, h1, fun j hj => ⟨(h2 j hj).1, fun x hx => ?_⟩, fun x hx => ?_⟩
  · rcases List.mem_cons.1 hx with rfl | hx
    · have := (h2 j hj).1
      simp only
      omega
    · exact (h2 j hj).2 x hx
  · rcases List.mem_cons.1 hx with rfl | hx
    · exact hg
    · exact h3 x hx
theorem Aw.push {b : Int} (p : Po) (h : Aw B hs w bt s) (hok : s.ok b) :
    Calls Try.prog 19 #[.pointer (some ⟨bt, 0, none⟩), p.v] w fun e w' => e = .returned (.tuple #[]) ∧ Hid (Aw B hs w' bt (pushM s p)) ∧ Hid (Below B w w') := by
  obtain ⟨hB, P, h1, h2, h3⟩ := h
  refine (push_any p w h1 hok).mono ?_
  rintro e w' ⟨rfl, hA⟩
  exact ⟨rfl, (Aw.stepP h1 h2 h3 hB hA).1, (Aw.stepP h1 h2 h3 hB hA).2⟩
theorem Aw.back {b : Int} (p : Po) (h : Aw B hs w bt s) (hok : s.ok b) :
    Calls Try.prog 21 #[.pointer (some ⟨bt, 0, none⟩), p.v] w fun e w' => e = .returned (ansV (backM s p).2) ∧ Hid (Aw B hs w' bt (backM s p).1) ∧ Hid (Below B w w') := by
  obtain ⟨hB, P, h1, h2, h3⟩ := h
  refine (back_any p w h1 hok).mono ?_
  rintro e w' ⟨rfl, hA⟩
  exact ⟨rfl, (Aw.stepP h1 h2 h3 hB hA).1, (Aw.stepP h1 h2 h3 hB hA).2⟩
theorem Aw.forth {b : Int} (h : Aw B hs w bt s) (hok : s.ok b) :
    Calls Try.prog 23 #[.pointer (some ⟨bt, 0, none⟩)] w fun e w' => e = .returned (ansV (forthM s).2) ∧ Hid (Aw B hs w' bt (forthM s).1) ∧ Hid (Below B w w') := by
  obtain ⟨hB, P, h1, h2, h3⟩ := h
  refine (forth_any  w h1 hok).mono ?_
  rintro e w' ⟨rfl, hA⟩
  exact ⟨rfl, (Aw.stepP h1 h2 h3 hB hA).1, (Aw.stepP h1 h2 h3 hB hA).2⟩
theorem Aw.set {b : Int} (r : Int) (p : Po) (h : Aw B hs w bt s) (hok : s.ok b) :
    Calls Try.prog 13 #[.pointer (some ⟨bt, 0, none⟩), .int .i32 r, p.v] w fun e w' => e = .returned (.int .i64 (setM s r p).2) ∧ Hid (Aw B hs w' bt (setM s r p).1) ∧ Hid (Below B w w') := by
  obtain ⟨hB, P, h1, h2, h3⟩ := h
  refine (set_any r p w h1 hok).mono ?_
  rintro e w' ⟨rfl, hA⟩
  exact ⟨rfl, (Aw.stepP h1 h2 h3 hB hA).1, (Aw.stepP h1 h2 h3 hB hA).2⟩
end

/-- a line of two runes in a row of one, as change's new lines -/
theorem one_line {w : World} {b g n : Nat} {x : List Int} (hx : x.length = n) (hw : ∀ z ∈ x, (Lit.int .i32 z).wf = true) (hn : n ≤ maxLen) (h1 : w.heap[b]? = some (.cells (x.map (Value.int .i32)).toArray 21 (0, 0))) (h2 : w.heap[g]? = some (.cells #[.slice (some ⟨b, 0, none⟩) n n] 52 (0, 0))) :
    RdL (fun _ => True) w (some ⟨g, 0, none⟩) 1 1 [x] := by
  subst hx
  refine ⟨[.slice (some ⟨b, 0, none⟩) x.length x.length], ⟨rfl, Nat.le_refl _, by unfold maxLen; omega, (fun e => by cases e), fun _ => ⟨_, 0, rfl, heap_lt h2, fun j u hu => ?_⟩⟩, fun _ ad e => trivial, rfl, fun i y hy => ?_⟩
  · rw [cell_row h2, Nat.zero_add]
    simpa using hu
  · cases i with
    | succ i => simp at hy
    | zero =>
      simp at hy
      subst hy
      refine ⟨some ⟨b, 0, none⟩, x.length, rfl, ⟨rfl, Nat.le_refl _, hn, hw, (fun e => by cases e), fun _ => ⟨b, 0, rfl, fun i hi => ?_⟩⟩, fun _ _ _ => trivial⟩
      rw [cell_row h1, Nat.zero_add]
      simp only [List.getElem?_toArray, List.getElem?_map]
      rw [List.getElem?_eq_getElem hi, List.getD_eq_getElem?_getD, List.getElem?_eq_getElem hi]
      rfl

def sA2 : Ms := ⟨[], [⟨1, 0⟩, ⟨7, 3⟩], 2⟩
def sA (i : Nat) : Ms := ⟨[], [⟨1, 0⟩, ⟨7, 3⟩, ⟨9, 0⟩], i⟩
theorem okA (ns js ix) (h1 : js.length ≤ 100) (h2 : ix ≤ js.length) (h3 : ns = []) (h4 : ∀ p ∈ js, okP 0 p) : Ms.ok ⟨ns, js, ix⟩ 0 := by
  subst h3
  exact ⟨h1, h2, List.Pairwise.nil, (fun x hx => by cases hx), (fun x hx => by cases hx), h4⟩
theorem ok0 : ms0.ok 0 := okA _ _ _ (by decide) (by decide) rfl (fun p hp => by cases hp)
theorem okA1 : (pushM ms0 ⟨1, 0⟩).ok 0 := okA _ [⟨1, 0⟩] 1 (by decide) (by decide) rfl (fun p hp => by simp at hp; subst hp; simp [okP])
theorem okA2 : sA2.ok 0 := okA _ _ _ (by decide) (by decide) rfl (fun p hp => by simp at hp; rcases hp with rfl | rfl <;> simp [okP])
theorem okA3 (i : Nat) (hi : i ≤ 3) : (sA i).ok 0 := okA _ _ _ (by simp) (by simpa using hi) rfl (fun p hp => by simp at hp; rcases hp with rfl | rfl | rfl <;> simp [okP])
theorem eA2 : pushM (pushM ms0 ⟨1, 0⟩) ⟨7, 3⟩ = sA2 := by rfl
theorem eA3 : backM sA2 ⟨9, 0⟩ = (sA 1, some ⟨7, 3⟩) := by rfl
theorem eA4 : backM (sA 1) ⟨9, 0⟩ = (sA 0, some ⟨1, 0⟩) := by rfl
theorem eA5 : backM (sA 0) ⟨9, 0⟩ = (sA 0, none) := by rfl
theorem eA6 : forthM (sA 0) = (sA 1, some ⟨7, 3⟩) := by rfl
theorem eA7 : forthM (sA 1) = (sA 2, some ⟨9, 0⟩) := by rfl
theorem eA8 : (setM (sA 2) 97 ⟨7, 3⟩).2 = 0 := by rfl
theorem eA9 : (setM (setM (sA 2) 97 ⟨7, 3⟩).1 65 ⟨7, 3⟩).2 = 1 := by rfl
theorem okA8 : (setM (sA 2) 97 ⟨7, 3⟩).1.ok 0 := ⟨by decide, by decide, by simp [setM, nameB, fitsP, sA, setN, setA], (fun x hx => by simp [setM, nameB, fitsP, sA, setN, setA] at hx; subst hx; decide), (fun x hx => by simp [setM, nameB, fitsP, sA, setN, setA] at hx; subst hx; simp [okP]), (okA3 2 (by omega)).jumps⟩

theorem ans_some (p : Po) : ansV (some p) = .tuple #[.agg #[.int .i64 p.l, .int .i64 p.c], .bool true] := rfl
theorem ans_none : ansV none = .tuple #[.agg #[.int .i64 0, .int .i64 0], .bool false] := rfl
/-- marks that are new, beside a place that has been laid -/
theorem new_b (q : Po) (w : World) : Calls Try.prog 12 #[] (w.alloc (.cells #[.int .i64 q.l, .int .i64 q.c] 23)) fun e w' => ∃ bt, e = .returned (.pointer (some ⟨bt, 0, none⟩)) ∧ Hid (Aw (w.heap.size + 1) [(w.heap.size, q)] w' bt ms0) ∧ Hid (Below w.heap.size w w') := by
  refine (new_any _).mono ?_
  rintro e w' ⟨rfl, hM, hb⟩
  have hb0 : Below w.heap.size w (w.alloc (.cells #[.int .i64 q.l, .int .i64 q.c] 23)) := (Below.refl _ w).alloc (Nat.le_refl _) _
  refine ⟨_, rfl, ?_, hb0.trans (hb.mono (by simp))⟩
  refine Aw.hold (B := w.heap.size + 1) (Aw.fresh hM (fun k hk => by have := hk.1; simpa using this)) ?_ (by omega)
  rw [hb.block _ (by simp)]
  exact heap_alloc_new w _
theorem moveA : ansV (moveP ⟨2, 9⟩ ⟨2, [[]], [[120, 121]]⟩) = .tuple #[.agg #[.int .i64 2, .int .i64 2], .bool true] := by rfl
def pA : Po := ⟨2, 2⟩
set_option maxHeartbeats 4000000 in
theorem awake_ok (w : World) : Calls Try.prog 11 #[] w fun e w' => e = .returned (.bool true) ∧ Below w.heap.size w w' := by
  have hmove : ∀ W : World, ∀ (b g : Nat) (oa : Option Addr), W.heap[b]? = some (.cells #[.int .i32 120, .int .i32 121] 21 (0, 0)) → W.heap[g]? = some (.cells #[.slice (some ⟨b, 0, none⟩) 2 2] 52 (0, 0)) →
      Calls Try.prog 9 #[.agg #[.int .i64 2, .int .i64 9], .agg #[.int .i64 2, .slice oa 1 1, .slice (some ⟨g, 0, none⟩) 1 1]] W fun e w' => e = .returned (.tuple #[.agg #[.int .i64 2, .int .i64 2], .bool true]) ∧ Below W.heap.size W w' := by
    intro W b g oa h1 h2
    have := move_any ⟨2, 9⟩ ⟨2, [[]], [[120, 121]]⟩ oa (some ⟨g, 0, none⟩) 1 1 (fun _ => True) W (one_line (n := 2) rfl (by simp [Lit.wf, IntKind.min, IntKind.max, IntKind.signed, IntKind.bits]) (by unfold maxLen; omega) h1 h2) (by simp [NearM]) (by simp [i64b])
    rw [moveA] at this
    exact this
  obtain ⟨W1, hW1⟩ : ∃ W1, ((w.alloc (.cells #[.slice none 0 0] 52)).alloc (.cells #[.int .i32 120, .int .i32 121] 21)).alloc (.cells #[.slice (some ⟨w.heap.size + 1, 0, none⟩) 2 2] 52) = W1 := ⟨_, rfl⟩
  have hbW : Below w.heap.size w W1 := by rw [← hW1]; exact (((Below.refl _ w).alloc (Nat.le_refl _) _).alloc (by simp) _).alloc (by simp; omega) _
  have g1 : W1.heap[w.heap.size + 1]? = some (.cells #[.int .i32 120, .int .i32 121] 21 (0, 0)) := by
    rw [← hW1]
    have h1 := heap_alloc_new (w.alloc (.cells #[.slice none 0 0] 52)) (.cells #[.int .i32 120, .int .i32 121] 21)
    rw [show (w.alloc (.cells #[.slice none 0 0] 52)).heap.size = w.heap.size + 1 by simp] at h1
    rw [((Below.refl _ ((w.alloc (.cells #[.slice none 0 0] 52)).alloc (.cells #[.int .i32 120, .int .i32 121] 21))).alloc (Nat.le_refl _) _).block _ (by simp)]
    exact h1
  have g2 : W1.heap[w.heap.size + 1 + 1]? = some (.cells #[.slice (some ⟨w.heap.size + 1, 0, none⟩) 2 2] 52 (0, 0)) := by
    rw [← hW1]
    have h1 := heap_alloc_new ((w.alloc (.cells #[.slice none 0 0] 52)).alloc (.cells #[.int .i32 120, .int .i32 121] 21)) (.cells #[.slice (some ⟨w.heap.size + 1, 0, none⟩) 2 2] 52)
    rw [show ((w.alloc (.cells #[.slice none 0 0] 52)).alloc (.cells #[.int .i32 120, .int .i32 121] 21)).heap.size = w.heap.size + 1 + 1 by simp] at h1
    exact h1
  have hm1 := hmove W1 _ _ (some ⟨w.heap.size, 0, none⟩) g1 g2
  clear hmove
  have tok1 : True := trivial
  have tok2 : True := trivial
  have tok3 : True := trivial
  have tok4 : True := trivial
  have tok5 : True := trivial
  have tok6 : True := trivial
  have tok7 : True := trivial
  have tok8 : True := trivial
  have tok9 : True := trivial
  have tokA : True := trivial
  have tokB : True := trivial
  go_enter Try.func11, Try.ntmps11
  go_wp2_with (go_at_call 9; have _t := tok1; refine hm1.mono ?_; rintro e w1 ⟨rfl, hb1⟩; clear tok1 _t)
  go_wp2_with (go_at_call 12; have _t := tok2; refine (new_b ⟨2, 2⟩ w1).mono ?_; rintro e w2 ⟨bt, rfl, hA2, hb2⟩; clear tok2 _t)
  go_wp2_with (go_at_call 19; have _t := tok3; refine (hA2.out.push ⟨1, 0⟩ ok0).mono ?_; rintro e w3 ⟨rfl, hA3, hb3⟩; clear tok3 _t)
  go_wp2_with (go_at_call 19; have _t := tok4; refine (hA3.out.push ⟨7, 3⟩ okA1).mono ?_; rw [eA2]; rintro e w4 ⟨rfl, hA4, hb4⟩; clear tok4 _t)
  go_wp2_with (go_at_call 21; have _t := tok5; refine (hA4.out.back ⟨9, 0⟩ okA2).mono ?_; rw [eA3, ans_some]; rintro e w5 ⟨rfl, hA5, hb5⟩; have hA5' := Lib.hid (hA5.out.more ⟨7, 3⟩); clear tok5 _t)
  go_wp2_with (go_at_call 21; have _t := tok6; refine (hA5'.out.back ⟨9, 0⟩ (okA3 1 (by omega))).mono ?_; rw [eA4, ans_some]; rintro e w6 ⟨rfl, hA6, hb6⟩; have hA6' := Lib.hid (hA6.out.more ⟨1, 0⟩); clear tok6 _t)
  go_wp2_with (go_at_call 21; have _t := tok7; refine (hA6'.out.back ⟨9, 0⟩ (okA3 0 (by omega))).mono ?_; rw [eA5, ans_none]; rintro e w7 ⟨rfl, hA7, hb7⟩; have hA7' := Lib.hid (hA7.out.more ⟨0, 0⟩); clear tok7 _t)
  go_wp2_with (go_at_call 23; have _t := tok8; refine (hA7'.out.forth (okA3 0 (by omega))).mono ?_; rw [eA6, ans_some]; rintro e w8 ⟨rfl, hA8, hb8⟩; have hA8' := Lib.hid (hA8.out.more ⟨7, 3⟩); clear tok8 _t)
  go_wp2_with (go_at_call 23; have _t := tok9; refine (hA8'.out.forth (okA3 1 (by omega))).mono ?_; rw [eA7, ans_some]; rintro e w9 ⟨rfl, hA9, hb9⟩; have hA9' := Lib.hid (hA9.out.more ⟨9, 0⟩); obtain ⟨x0, x1⟩ := hA9'.out.get (k := w1.heap.size) (q := ⟨2, 2⟩) (by simp); obtain ⟨y0, y1⟩ := hA9'.out.get (k := w5.heap.size) (q := ⟨7, 3⟩) (by simp); obtain ⟨u0, u1⟩ := hA9'.out.get (k := w6.heap.size) (q := ⟨1, 0⟩) (by simp); obtain ⟨v0, v1⟩ := hA9'.out.get (k := w8.heap.size) (q := ⟨7, 3⟩) (by simp); clear tok9 _t)
  go_wp2_with (go_at_call 13; have _t := tokA; refine (hA9'.out.set 97 ⟨7, 3⟩ (okA3 2 (by omega))).mono ?_; rw [eA8]; rintro e w10 ⟨rfl, hA10, hb10⟩; obtain ⟨z0, z1⟩ := hA10.out.get (k := w5.heap.size) (q := ⟨7, 3⟩) (by simp); clear tokA _t)
  go_wp2_with (go_at_call 13; have _t := tokB; refine (hA10.out.set 65 ⟨7, 3⟩ okA8).mono ?_; rw [eA9]; rintro e w11 ⟨rfl, hA11, hb11⟩; clear tokB _t)
  go_ret
  refine ⟨rfl, ?_⟩
  -- all that was written is new
  have r1 : Below w.heap.size w w1 := hbW.trans ((hW1 ▸ hb1 : Below W1.heap.size W1 w1).mono hbW.size)
  have s1 := r1.size
  have r2 := r1.trans (hb2.out.mono s1)
  have st : ∀ {a b : World}, Below w.heap.size w a → Below (w1.heap.size + 1) a b → Below w.heap.size w b := fun ha hb => ha.trans (hb.mono (by omega))
  have al : ∀ {a : World} (o : Obj), Below w.heap.size w a → Below w.heap.size w (a.alloc o) := fun o ha => ha.alloc ha.size o
  exact st (st (al _ (st (al _ (st (al _ (st (al _ (st (al _ (st (st (st r2 hb3.out) hb4.out) hb5.out)) hb6.out)) hb7.out)) hb8.out)) hb9.out)) hb10.out) hb11.out
end Go.Proofs.Ytbgbhlnidabhnaa.U
