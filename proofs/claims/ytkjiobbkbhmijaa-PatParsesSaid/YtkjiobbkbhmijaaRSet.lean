/-
  The program's reader: a set.
-/
import Derived.Test.YtkjiobbkbhmijaaRItem
import Derived.Test.YtkjiobbkbhmijaaRNum
import Derived.Test.YtkjiobbkbhmijaaRAdd
namespace Go.Proofs.Ytkjiobbkbhmijaa.U
open Go.RowKit
set_option linter.unusedVariables false
set_option linter.unusedSimpArgs false
set_option maxRecDepth 100000

theorem infoSp : (Try.prog.info? 48).map (fun i => (i.zero, i.size, i.bytes)) = some (some (.agg #[.int .i64 0, .int .i64 0]), 2, 16) := by kernel_rfl
/-- append an item that has just been laid -/
theorem app_sp (w : World) (B : Nat) (v : Value) (n : Nat) (xs : List (Int × Int)) (l c : Int) (hown : w.ownsRow B 48 2 v n (spc xs)) (hB : B ≤ w.heap.size) (hn : n ≤ 1000000) :
    ∃ a' c' w', (∀ ty, (Builtin.append_ #[23, 23] ty #[v, .slice (some ⟨w.heap.size, 0, none⟩) 1 1]).run Try.prog (w.alloc (.cells #[.int .i64 l, .int .i64 c] 48)) = .ok (.slice a' (n + 1) c') w') ∧ w'.ownsRow B 48 2 (.slice a' (n + 1) c') (n + 1) (spc (xs ++ [(l, c)])) ∧ Below B w w' := by
  obtain ⟨i0, hi0, hz0, hz1, hz2⟩ := info_parts infoSp
  have hb0 : Below w.heap.size w (w.alloc (.cells #[.int .i64 l, .int .i64 c] 48)) := (Below.refl _ w).alloc (Nat.le_refl _) _
  obtain ⟨v', w1, hrun, hown1, hfr, hnear⟩ := run_append_own_k (P := Try.prog) (w.alloc (.cells #[.int .i64 l, .int .i64 c] 48)) B 23 48 i0 _ 2 16 Try.underlying23 hi0 hz0 hz1 hz2 rfl (by decide) v n _ (hown.alloc _) (some ⟨w.heap.size, 0, none⟩) 1 1 [.int .i64 l, .int .i64 c] rfl
    (fun _ => ⟨_, rfl, src_of (off := 0) (m := 2) (cur := [.int .i64 l, .int .i64 c]) (heap_alloc_new w _)⟩) (fun u hu => spc_one1 [(l, c)] u (by simpa [spc] using hu)) (by unfold maxLen; omega) (by omega) (by simp; omega)
  obtain ⟨a', c', rfl⟩ := own_slice hown1
  refine ⟨a', c', w1, hrun, ?_, (hb0.mono hB).trans (hfr.below (by simp; omega) (fun k e => (hown.lt k e.symm).1))⟩
  rw [spc_append]
  exact hown1

def SeAns (w : World) (br : Nat) (p : List Int) (n o : Nat) (r : Rs (Re × List Int)) (e : Ending) (w' : World) : Prop :=
  match r with
  | .error c => e = errV c ∧ Fr (· = br) w w'
  | .ok (y, l') => ∃ k r sa sn sc nt lo hi pa pn pc, e = .returned (.agg #[.int .i64 k, .int .i32 r, .slice sa sn sc, .bool nt, .int .i64 lo, .int .i64 hi, .slice pa pn pc]) ∧ ReAt (New w w') w' [.int .i64 k, .int .i32 r, .slice sa sn sc, .bool nt, .int .i64 lo, .int .i64 hi, .slice pa pn pc] y ∧ RdS w' br p l' n o ∧ Fr (· = br) w w'
/-- a set that is being read: its block S behind the result's block -/
def Sg (w1 wr : World) (br S : Nat) (p l : List Int) (n o : Nat) (nt : Bool) (acc : List (Int × Int)) : Prop :=
  ∃ a c, wr.heap[S]? = some (.cells #[.int .i64 3, .int .i32 0, .slice a acc.length c, .bool nt, .int .i64 0, .int .i64 0, .slice none 0 0] 26 (0, 0)) ∧ wr.ownsRow (S + 1) 48 2 (.slice a acc.length c) acc.length (spc acc) ∧ RdS wr br p l n o ∧ Fr (fun k => k = br ∨ S ≤ k) w1 wr ∧ acc.length + l.length ≤ p.length
theorem Sg.fr {w1 wr w2 : World} {br S : Nat} {p l l2 : List Int} {n o : Nat} {nt : Bool} {acc : List (Int × Int)} (h : Sg w1 wr br S p l n o nt acc) (hbr : br < S) (hf : Fr (· = br) wr w2) (hr : RdS w2 br p l2 n o) (hl : l2.length ≤ l.length) : Sg w1 w2 br S p l2 n o nt acc := by
  obtain ⟨a, c, h1, h2, h3, h4, h5⟩ := h
  exact ⟨a, c, (hf.block S (heap_lt h1) (by omega)).trans h1, own_fr h2 hf (fun k hk e => by have := (h2.lt k hk).1; omega), hr, h4.trans hf (fun _ _ h => Or.inl h), by omega⟩
theorem itemL_le (l : List Int) : (itemL l).length ≤ l.length := by
  unfold itemL
  split
  · simp
  · exact Nat.le_refl _
/-- an item more -/
theorem Sg.app {w1 w3 : World} {br S : Nat} {p l : List Int} {n o : Nat} {nt : Bool} {acc : List (Int × Int)} (h : Sg w1 w3 br S p l n o nt acc) (hbrS : br < S) (hl : acc.length + l.length + 1 ≤ p.length) (x y : Int) :
    ∃ a c, (w3.alloc (.cells #[.int .i64 x, .int .i64 y] 48)).cell? ⟨S, 2, none⟩ = some (.slice a acc.length c) ∧ ∃ a' c' w5, (∀ ty, (Builtin.append_ #[23, 23] ty #[.slice a acc.length c, .slice (some ⟨w3.heap.size + 1, 0, none⟩) 1 1]).run Try.prog ((w3.alloc (.cells #[.int .i64 x, .int .i64 y] 48)).alloc (.cells #[.int .i64 x, .int .i64 y] 48)) = .ok (.slice a' (acc.length + 1) c') w5) ∧
      w5.cell? ⟨S, 2, none⟩ = some (.slice a acc.length c) ∧ w5.frozen? ⟨S, 2, none⟩ = false ∧ Hid (Sg w1 (w5.setCell ⟨S, 2, none⟩ (.slice a' (acc.length + 1) c')) br S p l n o nt (acc ++ [(x, y)])) := by
  obtain ⟨a, c, h1, h2, h3, h4, h5⟩ := h
  have hS := heap_lt h1
  have hbr := h3.lt
  have hp : p.length ≤ 1000000 := by obtain ⟨_, _, _, _, _, _, _, _, _, hp, _⟩ := h3; exact hp
  have hb4 : Below w3.heap.size w3 (w3.alloc (.cells #[.int .i64 x, .int .i64 y] 48)) := bal _ _
  have g4 := (hb4.block S hS).trans h1
  obtain ⟨a', c', w5, hrun, hown, hb5⟩ := app_sp (w3.alloc (.cells #[.int .i64 x, .int .i64 y] 48)) (S + 1) _ acc.length acc x y (own_fr h2 (Fr.of_below (fun _ => False) hb4) (fun _ _ h => h)) (by simp; omega) (by omega)
  have g5 := (hb5.block S (by omega)).trans g4
  rw [show (w3.alloc (.cells #[.int .i64 x, .int .i64 y] 48)).heap.size = w3.heap.size + 1 by simp] at hrun
  refine ⟨a, c, by rw [cell_row g4]; rfl, a', c', w5, hrun, by rw [cell_row g5]; rfl, frozen_row g5 2, ?_⟩
  have hfs : Fr (fun k => k = S) w5 (w5.setCell ⟨S, 2, none⟩ (.slice a' (acc.length + 1) c')) := (Fr.refl (fun k => k = S) w5).setCell ⟨S, 2, none⟩ _ (fun _ => rfl)
  have hf35 : Fr (fun k => S + 1 ≤ k) w3 w5 := (Fr.of_below (fun k => S + 1 ≤ k) hb4).trans (⟨hb5.os, hb5.tape, hb5.output, hb5.size, fun k _ hk => hb5.block k (by omega)⟩ : Fr (fun k => S + 1 ≤ k) _ w5) (fun _ _ h => h)
  refine ⟨a', c', ?_, ?_, (h3.fr hf35 (fun k hk => by omega)).fr hfs (fun k e => by omega), (h4.trans hf35 (fun k _ h => Or.inr (by omega))).trans hfs (fun k _ e => Or.inr (by omega)), by rw [List.length_append]; simp; omega⟩
  · rw [List.length_append]
    exact heap_set g5 2 _
  · rw [List.length_append]
    exact own_fr hown hfs (fun k hk e => row_block_apart hown g5 (by decide) hk e)

theorem Sg.cells {w1 wr : World} {br S : Nat} {p l : List Int} {n o : Nat} {nt : Bool} {acc : List (Int × Int)} (h : Sg w1 wr br S p l n o nt acc) : ∃ a c, wr.cell? ⟨S, 2, none⟩ = some (.slice a acc.length c) := by
  obtain ⟨a, c, h1, _⟩ := h
  exact ⟨a, c, by rw [cell_row h1]; rfl⟩
theorem isDown_snoc (acc : List (Int × Int)) (s : Int × Int) : isDown (acc ++ [s]) = (isDown acc || decide (s.2 < s.1)) := by
  simp [isDown, List.any_append]
/-- what is left behind a set -/
theorem Sg.done {w w1 wr W : World} {br S : Nat} {p l : List Int} {n o : Nat} {nt : Bool} {acc : List (Int × Int)} (h : Sg w1 wr br S p l n o nt acc) (hb : Below w.heap.size w w1) (hS : w.heap.size < S) (hbr : br < w.heap.size) (hf : Fr (fun j => j = w.heap.size) wr W) :
    ∃ a c, wr.heap[S]? = some (.cells #[.int .i64 3, .int .i32 0, .slice a acc.length c, .bool nt, .int .i64 0, .int .i64 0, .slice none 0 0] 26 (0, 0)) ∧ ReAt (New w W) W [.int .i64 3, .int .i32 0, .slice a acc.length c, .bool nt, .int .i64 0, .int .i64 0, .slice none 0 0] (.mk 3 0 acc nt 0 0 []) ∧ RdS W br p l n o ∧ Fr (· = br) w W := by
  obtain ⟨a, c, h1, h2, h3, h4, h5⟩ := h
  have hs := hf.size
  refine ⟨a, c, h1, ?_, h3.fr hf (fun k e => by omega), ?_⟩
  · unfold ReAt
    have hown := own_fr h2 hf (fun k hk e => by have := (h2.lt k hk).1; omega)
    exact ⟨a, c, none, 0, rfl, Rc.own hown, InF.own hown (fun k hk => ⟨by have := (hown.lt k hk).1; omega, (hown.lt k hk).2⟩), [], Rc.none0 _ _, InF.zero _ _, PsAt.nil _ _⟩
  · have h6 : Fr (fun k => k = br ∨ w.heap.size ≤ k) w W := ((Fr.of_below (fun k => k = br ∨ w.heap.size ≤ k) hb).trans h4 (fun k _ h => h.elim Or.inl (fun h => Or.inr (by omega)))).trans hf (fun k _ e => Or.inr (by omega))
    exact ⟨h6.os, h6.tape, h6.output, h6.size, fun k hk hne => h6.block k hk (fun e => e.elim hne (fun e => by omega))⟩

def setF (nt : Bool) (r : Rs (List (Int × Int) × List Int)) : Rs (Re × List Int) :=
  match r with
  | .error e => .error e
  | .ok (st, l') => if isDown st then .error 5 else .ok (.mk 3 0 st nt 0 0 [], l')
theorem setB_eq (nt : Bool) (l : List Int) : setB nt l = setF nt (items (l.length + 1) [] l) := rfl
theorem items_step (g : Nat) (acc : List (Int × Int)) (c : Int) (l : List Int) (h : (!acc.isEmpty && pre [93] (c :: l)) = false) : items (g + 1) acc (c :: l) = items g (acc ++ [itemV c l]) (itemL l) := by
  have e : items (g + 1) acc (c :: l) = if (!acc.isEmpty && pre [93] (c :: l)) = true then .ok (acc, (c :: l).drop 1) else if isRange l = true then items g (acc ++ [(c, l.getD 1 0)]) (l.drop 2) else items g (acc ++ [(c, c)]) l := rfl
  rw [e, h]
  unfold itemV itemL
  cases isRange l <;> rfl
theorem items_end (g : Nat) (acc : List (Int × Int)) (l : List Int) (h : (!acc.isEmpty && pre [93] l) = true) : items (g + 1) acc l = .ok (acc, l.drop 1) := by
  rw [items.eq_def]
  simp only [h, if_true]
theorem items_none (g : Nat) (acc : List (Int × Int)) : items (g + 1) acc [] = .error 10 := by
  rw [items.eq_def]
  simp [pre]
set_option maxHeartbeats 2000000 in
theorem set_go (br : Nat) (p l : List Int) (n o : Nat) (nt : Bool) (w : World) (hn : n + l.length ≤ p.length) (h : RdS w br p l n o) (hnt : pre [94] l = nt) :
    Calls Try.prog 50 #[.pointer (some ⟨br, 0, none⟩)] w (SeAns w br p n o (setR l)) := by
  have hlt := h.lt
  obtain ⟨w0, hw0⟩ : ∃ w0, w.alloc (.cells #[.int .i64 0, .int .i32 0, .slice none 0 0, .bool false, .int .i64 0, .int .i64 0, .slice none 0 0] 26) = w0 := ⟨_, rfl⟩
  have hb0 : Below w.heap.size w w0 := by rw [← hw0]; exact bal _ _
  have hg0 : w0.heap[w.heap.size]? = some (.cells #[.int .i64 0, .int .i32 0, .slice none 0 0, .bool false, .int .i64 0, .int .i64 0, .slice none 0 0] 26 (0, 0)) := by rw [← hw0]; exact heap_alloc_new w _
  obtain ⟨l1, hl1⟩ : ∃ l1, (if nt then l.drop 1 else l) = l1 := ⟨_, rfl⟩
  have hset : setR l = setB nt l1 := by
    unfold setR
    rw [hnt]
    cases nt
    · rw [← hl1]; rfl
    · rw [← hl1]; rfl
  have hl1len : l1.length ≤ l.length := by rw [← hl1]; split <;> simp
  rw [hset]
  have HTK : Hid (∀ W, W = w0.alloc (.cells #[.int .i32 94] 21) → Calls Try.prog 33 #[.pointer (some ⟨br, 0, none⟩), .slice (some ⟨w0.heap.size, 0, none⟩) 1 1] W fun e w' => e = .returned (.bool nt) ∧ Hid (RdS w' br p l1 n o ∧ Fr (· = br) w0 w')) := by
    rintro W rfl
    cases nt with
    | true =>
      refine (took1_yes (h.below hb0) 94 hnt (by decide)).mono ?_
      rintro e w' ⟨rfl, h2⟩
      rw [← hl1]
      exact ⟨rfl, h2⟩
    | false =>
      refine (took1_no (h.below hb0) 94 hnt (by decide)).mono ?_
      rintro e w' ⟨rfl, h2⟩
      rw [← hl1]
      exact ⟨rfl, (h.below hb0).below h2.out, Fr.of_below _ h2.out⟩
  obtain ⟨r0, hr0⟩ : ∃ r0, items (l1.length + 1) [] l1 = r0 := ⟨_, rfl⟩
  have hres : setB nt l1 = setF nt r0 := by rw [setB_eq, hr0]
  rw [hres]
  have HR0 := Lib.hid hr0
  have HLP : Hid (l1.length ≤ p.length) := by show _ ≤ _; have := h.len; omega
  have HG0 := Lib.hid hg0
  have HB0 := Lib.hid hb0
  have HW0 := Lib.hid hw0
  clear hg0 hb0 hw0 hset hl1 hl1len hres hr0 h hnt hn
  go_enter Try.func50, Try.ntmps50
  go_upto_region 1 with fail
  rw [HW0.out]
  go_upto_region 2 with (go_at_call 33; refine (HTK.out _ rfl).mono ?_; rintro e w1 ⟨rfl, H1⟩)
  obtain ⟨w2, hw2⟩ : ∃ w2, w1.alloc (.cells #[.int .i64 3, .int .i32 0, .slice none 0 0, .bool nt, .int .i64 0, .int .i64 0, .slice none 0 0] 26) = w2 := ⟨_, rfl⟩
  have hg2 : w2.heap[w1.heap.size]? = some (.cells #[.int .i64 3, .int .i32 0, .slice none 0 0, .bool nt, .int .i64 0, .int .i64 0, .slice none 0 0] 26 (0, 0)) := by rw [← hw2]; exact heap_alloc_new w1 _
  have hb2 : Below w1.heap.size w1 w2 := by rw [← hw2]; exact bal _ _
  have hwS : w.heap.size < w1.heap.size := by
    have := heap_lt HG0.out
    have := H1.out.2.size
    omega
  have hSg : Sg w0 w2 br w1.heap.size p l1 n o nt [] := by
    refine ⟨none, 0, hg2, World.ownsRow_nil _ _ _ _, H1.out.1.below hb2, (H1.out.2.mono (fun _ _ h => Or.inl h)).trans (Fr.of_below _ hb2) (fun _ _ h => h), ?_⟩
    have := HLP.out
    simpa using this
  have HSG := Lib.hid hSg
  have HW2 := Lib.hid hw2
  clear hSg hg2 hw2 hb2
  go_upto_region 2 with fail
  rw [HW2.out]
  go_wp2_with fail
  go_loopw [4] (fun v4 wr => ∃ (acc : List (Int × Int)) (l2 : List Int) (f : Nat), v4 = .bool (isDown acc) ∧ Hid (Sg w0 wr br w1.heap.size p l2 n o nt acc ∧ l2.length < f ∧ items f acc l2 = r0)) (fun _ wr => p.length - atN wr br)
  case atStart => exact ⟨[], l1, l1.length + 1, rfl, HSG.out, by omega, HR0.out⟩
  case round =>
    obtain ⟨acc, l2, f, rfl, HR⟩ := hrel
    clear HSG
    obtain ⟨g, hg⟩ : ∃ g, f = g + 1 := ⟨f - 1, by have := HR.out.2.1; omega⟩
    subst hg
    have HSG := Lib.hid HR.out.1
    have HIT := Lib.hid HR.out.2.2
    have HLG : Hid (l2.length ≤ g) := by show _ ≤ _; have := HR.out.2.1; omega
    have HRD : Hid (RdS wr br p l2 n o) := by obtain ⟨_, _, _, _, h, _⟩ := HR.out.1; exact h
    obtain ⟨a, c, hc2⟩ := HSG.out.cells
    obtain ⟨m, hm⟩ : ∃ m, acc.length = m := ⟨_, rfl⟩
    rw [hm] at hc2
    have hmb : m ≤ 1000000 := by
      obtain ⟨_, _, _, _, h3, _, h5⟩ := HR.out.1
      obtain ⟨_, _, _, _, _, _, _, _, _, hp, _⟩ := h3
      omega
    have HM := Lib.hid hm
    clear hm
    obtain ⟨d, hd⟩ : ∃ d, isDown acc = d := ⟨_, rfl⟩
    have HD := Lib.hid hd
    rw [hd]
    cases hb : (!acc.isEmpty && pre [93] l2) with
    | true =>
      have HR0' : Hid (setF nt r0 = if d then .error 5 else .ok (.mk 3 0 acc nt 0 0 [], l2.drop 1)) := by
        have := HIT.out
        rw [items_end g acc l2 hb] at this
        rw [← this, ← hd]; rfl
      simp only [Bool.and_eq_true, Bool.not_eq_true'] at hb
      have hm1 : ((m : Int) == 0) = false := by
        have : acc ≠ [] := fun e => by rw [e] at hb; simp at hb
        have : 0 < acc.length := List.length_pos_iff.2 this
        have := HM.out
        simp; omega
      have HP := Lib.hid hb.2
      clear hb hd
      go_upto_region 9 with (go_at_call 33; refine (took1_yes HRD.out 93 HP.out (by decide)).mono ?_; rintro e wc ⟨rfl, H3⟩)
      have HSD : Hid (Sg w0 wc br w1.heap.size p (l2.drop 1) n o nt acc) := HSG.out.fr (by omega) H3.out.2 H3.out.1 (by simp)
      cases d with
      | true =>
        go_wp2
        obtain ⟨_, _, _, _, _, h4, _⟩ := HSD.out
        have h6 : Fr (fun k => k = br ∨ w.heap.size ≤ k) w wc := ((Fr.of_below (fun k => k = br ∨ w.heap.size ≤ k) HB0.out).trans h4 (fun k _ h => h.elim Or.inl (fun h => Or.inr (by omega))))
        refine ⟨rfl, ?_⟩
        show SeAns w br p n o (setF nt r0) _ _
        rw [HR0'.out]
        exact ⟨rfl, h6.os, h6.tape, h6.output, h6.size, fun k hk hne => h6.block k hk (fun e => e.elim hne (fun e => by omega))⟩
      | false =>
        have hgr : wc.heap[w.heap.size]? = some (.cells #[.int .i64 0, .int .i32 0, .slice none 0 0, .bool false, .int .i64 0, .int .i64 0, .slice none 0 0] 26 (0, 0)) := by
          obtain ⟨_, _, _, _, _, h4, _⟩ := HSD.out
          rw [h4.block _ (heap_lt HG0.out) (fun e => by omega)]
          exact HG0.out
        have hdone := fun (W : World) (hW : Fr (fun j => j = w.heap.size) wc W) => HSD.out.done (w := w) (W := W) HB0.out hwS hlt hW
        obtain ⟨a3, c3, hg3, _⟩ := hdone wc (Fr.refl _ _)
        obtain ⟨p0, p1, p2, p3, p4, p5, p6, -, -, -, -, -, -, -⟩ := row7 hg3
        obtain ⟨r0', r1, r2, r3, r4, r5, r6, z0, z1, z2, z3, z4, z5, z6⟩ := row7 hgr
        have hput := put7 hgr (.int .i64 3) (.int .i32 0) (.slice a3 acc.length c3) (.bool nt) (.int .i64 0) (.int .i64 0) (.slice none 0 0)
        obtain ⟨a4, c4, hg4, hre, hrd, hfr⟩ := hdone _ hput.2
        rw [hg3] at hg4
        simp only [Option.some.injEq, Obj.cells.injEq, Array.mk.injEq, List.cons.injEq, Value.slice.injEq, true_and, and_true] at hg4
        obtain ⟨rfl, rfl⟩ := hg4
        have HFIN := Lib.hid (And.intro hre (And.intro hrd hfr))
        clear hdone hput hre hrd hfr hg3 hgr
        go_wp2
        refine bodyPost_ret (v := .agg #[.int .i64 3, .int .i32 0, .slice a3 acc.length c3, .bool nt, .int .i64 0, .int .i64 0, .slice none 0 0]) ?_ rfl ?_
        · rw [results_cell1 rfl]
          go_simp
        · show SeAns w br p n o (setF nt r0) _ _
          rw [HR0'.out]
          exact ⟨_, _, _, _, _, _, _, _, _, _, _, rfl, HFIN.out⟩
    | false =>
      have HBB := Lib.hid hb
      -- the guard
      have HG3 : Hid (acc = [] ∧ m = 0 ∨ pre [93] l2 = false ∧ ((m : Int) == 0) = false) := by
        by_cases he : acc = []
        · exact Or.inl ⟨he, by rw [← HM.out, he]; rfl⟩
        · refine Or.inr ⟨?_, ?_⟩
          · have : acc.isEmpty = false := by cases acc <;> simp_all
            rw [this] at hb
            simpa using hb
          · have : 0 < acc.length := List.length_pos_iff.2 he
            have := HM.out
            simp; omega
      clear hb hd
      match l2, HR, HSG, HIT, HLG, HRD, HBB, HG3 with
      | [], HR, HSG, HIT, HLG, HRD, HBB, HG3 =>
        have HR0' : Hid (r0 = .error 10) := by
          have := HIT.out
          rw [items_none] at this
          exact this.symm
        go_upto_region 3 with fail
        go_cut [19] from 10 to 46 (fun v wx => v = .bool true ∧ Hid (Below wr.heap.size wr wx))
        case first =>
          rcases HG3.out with ⟨_, h2⟩ | ⟨h1, h2⟩
          · subst h2
            go_wp2
            go_meet
            exact ⟨rfl, Below.refl _ _⟩
          · have HP := Lib.hid h1
            clear h1
            go_wp2_with (go_at_call 33; refine (took1_no HRD.out 93 HP.out (by decide)).mono ?_; rintro e w3 ⟨rfl, H3⟩)
            go_meet
            exact ⟨rfl, H3⟩
        case rest =>
        obtain ⟨rfl, H3⟩ := hcut
        clear hc2
        have HRC := Lib.hid (HRD.out.below H3.out)
        obtain ⟨pa, cap, i, e0, e1, e2, e3, fz, hr, hin, hdr, hi, hn2, hp, ho⟩ := HRC.out.cells
        have hll : ([] : List Int).length = p.length - i := by rw [hdr]; simp
        obtain ⟨q, hq⟩ : ∃ q, p.length = q := ⟨_, rfl⟩
        rw [hq] at e0 hi hll
        simp only [List.length_nil] at hll
        have hsm := hr.small
        have g1 : ((i : Int) == (q : Int)) = true := by simp; omega
        have g2 : i = q := by omega
        subst g2
        have g1 : ((i : Int) == (i : Int)) = true := by simp
        clear hr hin hdr fz hll hq hn2 hp ho hi
        go_wp2_with fail
        go_quiet (fail)
        go_wp2
        refine ⟨rfl, ?_⟩
        show SeAns w br p n o (setF nt r0) _ _
        rw [HR0'.out]
        obtain ⟨_, _, _, _, _, h4, _⟩ := HSG.out
        have h6 : Fr (fun k => k = br ∨ w.heap.size ≤ k) w wr := ((Fr.of_below (fun k => k = br ∨ w.heap.size ≤ k) HB0.out).trans h4 (fun k _ h => h.elim Or.inl (fun h => Or.inr (by omega))))
        have h7 : Fr (· = br) w wr := ⟨h6.os, h6.tape, h6.output, h6.size, fun k hk hne => h6.block k hk (fun e => e.elim hne (fun e => by omega))⟩
        exact ⟨rfl, (h7.trans (Fr.of_below _ H3.out) (fun _ _ h => h)).trans (Fr.of_below _ (by first | exact Below.refl _ _ | exact bdrewN (Below.refl _ _) _)) (fun _ _ h => h)⟩
      | x0 :: l3, HR, HSG, HIT, HLG, HRD, HBB, HG3 =>
        have HITM : Hid (items g (acc ++ [itemV x0 l3]) (itemL l3) = r0) := by
          have := HIT.out
          rw [items_step g acc x0 l3 HBB.out] at this
          exact this
        go_upto_region 3 with fail
        go_cut [19] from 10 to 46 (fun v wx => v = .bool true ∧ Hid (Below wr.heap.size wr wx))
        case first =>
          rcases HG3.out with ⟨_, h2⟩ | ⟨h1, h2⟩
          · subst h2
            go_wp2
            go_meet
            exact ⟨rfl, Below.refl _ _⟩
          · have HP := Lib.hid h1
            clear h1
            go_wp2_with (go_at_call 33; refine (took1_no HRD.out 93 HP.out (by decide)).mono ?_; rintro e w3 ⟨rfl, H3⟩)
            go_meet
            exact ⟨rfl, H3⟩
        case rest =>
        obtain ⟨rfl, H3⟩ := hcut
        clear hc2
        have HRC := Lib.hid (HRD.out.below H3.out)
        obtain ⟨pa, cap, i, e0, e1, e2, e3, fz, hr, hin, hdr, hi, hn2, hp, ho⟩ := HRC.out.cells
        obtain ⟨hil, -, -⟩ := drop_cons hdr
        obtain ⟨q, hq⟩ : ∃ q, p.length = q := ⟨_, rfl⟩
        rw [hq] at e0 hi hil
        have hsm := hr.small
        have g1 : ((i : Int) == (q : Int)) = false := by simp; omega
        have HIA : Hid (∀ W : World, Below wc.heap.size wc W → Calls Try.prog 55 #[.pointer (some ⟨br, 0, none⟩)] W fun e w' => e = .returned (.agg #[.int .i64 (itemV x0 l3).1, .int .i64 (itemV x0 l3).2]) ∧ Hid (RdS w' br p (itemL l3) n o ∧ Fr (· = br) wr w')) := by
          intro W hW
          refine (item_any br p l3 x0 n o W (HRC.out.below hW)).mono ?_
          rintro e w' ⟨rfl, h1, h2⟩
          exact ⟨rfl, h1, ((Fr.of_below (· = br) H3.out).trans (Fr.of_below _ hW) (fun _ _ h => h)).trans h2 (fun _ _ h => h)⟩
        obtain ⟨x, hx⟩ : ∃ x, (itemV x0 l3).1 = x := ⟨_, rfl⟩
        obtain ⟨y, hy⟩ : ∃ y, (itemV x0 l3).2 = y := ⟨_, rfl⟩
        have hxy : itemV x0 l3 = (x, y) := by rw [← hx, ← hy]
        rw [hx, hy] at HIA
        rw [hxy] at HITM
        have HLE : Hid ((itemL l3).length ≤ l3.length) := itemL_le l3
        have HAP : Hid (∀ w3 : World, Hid (RdS w3 br p (itemL l3) n o ∧ Fr (· = br) wr w3) → ∃ a c, (w3.alloc (.cells #[.int .i64 x, .int .i64 y] 48)).cell? ⟨w1.heap.size, 2, none⟩ = some (.slice a acc.length c) ∧ ∃ a' c' w5, (∀ ty, (Builtin.append_ #[23, 23] ty #[.slice a acc.length c, .slice (some ⟨w3.heap.size + 1, 0, none⟩) 1 1]).run Try.prog ((w3.alloc (.cells #[.int .i64 x, .int .i64 y] 48)).alloc (.cells #[.int .i64 x, .int .i64 y] 48)) = .ok (.slice a' (acc.length + 1) c') w5) ∧
            w5.cell? ⟨w1.heap.size, 2, none⟩ = some (.slice a acc.length c) ∧ w5.frozen? ⟨w1.heap.size, 2, none⟩ = false ∧ Hid (Sg w0 (w5.setCell ⟨w1.heap.size, 2, none⟩ (.slice a' (acc.length + 1) c')) br w1.heap.size p (itemL l3) n o nt (acc ++ [(x, y)]))) := by
          intro w3 h
          have h1 := HSG.out.fr (by omega) h.out.2 h.out.1 (by have := HLE.out; simp; omega)
          refine h1.app (by omega) ?_ x y
          obtain ⟨_, _, _, _, _, _, h5⟩ := HSG.out
          have := HLE.out
          simp at h5
          omega
        clear hr hin hdr fz hq hn2 hp ho hi hx hy hxy e2 e3
        go_upto_region 6 with go_quiet (fail)
        cases d with
        | false =>
          go_wp2_with (first
            | (go_at_call 55; refine (HIA.out _ (by first | exact Below.refl _ _ | exact bdrewN (Below.refl _ _) _)).mono ?_; rintro e w3 ⟨rfl, H4⟩; obtain ⟨a, c, c4, a', c', w5, hrun, c5, f5, HSN⟩ := HAP.out w3 H4; have HRUN := Lib.hid hrun; clear hrun)
            | (at_builtin; go_must (with_reducible refine Lib.wpList_append_run _ rfl (.tmp 42) (.tmp 44) _ _ rfl _ _ rfl rfl _ _ (HRUN.out _) ?_)))
          go_roundw
          case rel =>
            refine ⟨acc ++ [(x, y)], itemL l3, g, ?_, ?_⟩
            · rw [isDown_snoc, HD.out]; rfl
            · refine Lib.hid ⟨?_, ?_, HITM.out⟩
              · with_reducible exact HSN.out
              · have := HLE.out
                have := HLG.out
                simp only [List.length_cons] at this
                omega
          case measure =>
            obtain ⟨_, _, _, _, h5, _⟩ := HSN.out
            have h7 := h5.atN
            have h8 := HRD.out.atN
            have := HRD.out.len
            have := HLE.out
            rw [h7, h8]
            simp only [List.length_cons] at *
            omega
        | true =>
          go_wp2_with (first
            | (go_at_call 55; refine (HIA.out _ (by first | exact Below.refl _ _ | exact bdrewN (Below.refl _ _) _)).mono ?_; rintro e w3 ⟨rfl, H4⟩; obtain ⟨a, c, c4, a', c', w5, hrun, c5, f5, HSN⟩ := HAP.out w3 H4; have HRUN := Lib.hid hrun; clear hrun)
            | (at_builtin; go_must (with_reducible refine Lib.wpList_append_run _ rfl (.tmp 42) (.tmp 44) _ _ rfl _ _ rfl rfl _ _ (HRUN.out _) ?_)))
          go_roundw
          case rel =>
            refine ⟨acc ++ [(x, y)], itemL l3, g, ?_, ?_⟩
            · rw [isDown_snoc, HD.out]; rfl
            · refine Lib.hid ⟨?_, ?_, HITM.out⟩
              · with_reducible exact HSN.out
              · have := HLE.out
                have := HLG.out
                simp only [List.length_cons] at this
                omega
          case measure =>
            obtain ⟨_, _, _, _, h5, _⟩ := HSN.out
            have h7 := h5.atN
            have h8 := HRD.out.atN
            have := HRD.out.len
            have := HLE.out
            rw [h7, h8]
            simp only [List.length_cons] at *
            omega
theorem set_any (br : Nat) (p l : List Int) (n o : Nat) (w : World) (h : RdS w br p l n o) :
    Calls Try.prog 50 #[.pointer (some ⟨br, 0, none⟩)] w (SeAns w br p n o (setR l)) := by
  refine set_go br p l n o (pre [94] l) w ?_ h rfl
  obtain ⟨_, _, i, _, _, _, h4, h5, h6, _⟩ := h
  rw [h4, List.length_drop]
  omega
end Go.Proofs.Ytkjiobbkbhmijaa.U
