/-
  Registers that are awake: texts out of strings; what is put and told, step by step.
-/
import Derived.Test.YtleidcegbfnmkaaHPutE
import Derived.Test.YtleidcegbfnmkaaGAll
import Derived.Laws.IdiomStrings
namespace Go.Proofs.Ytleidcegbfnmkaa.U
open Go.RowKit
set_option linter.unusedVariables false
set_option linter.unusedSimpArgs false
set_option maxRecDepth 100000

theorem btr {a b c : World} (h : Below a.heap.size a b) (k : Below b.heap.size b c) : Below a.heap.size a c := h.trans (k.mono h.size)
/-- a string's runes -/
theorem runes_ints (s : ByteArray) : ∀ (bound i : Nat) (acc : List Int), (∀ x ∈ acc, (Lit.int .i32 x).wf = true) →
    ∃ xs : List Int, Conv.runesFrom s bound i (acc.map (Value.int .i32)).toArray = (xs.map (Value.int .i32)).toArray ∧ (∀ x ∈ xs, (Lit.int .i32 x).wf = true)
  | 0, i, acc, h => ⟨acc, by simp [Conv.runesFrom], h⟩
  | bound + 1, i, acc, h => by
    unfold Conv.runesFrom
    split
    · have hd := decode_le s i
      obtain ⟨xs, h1, h2⟩ := runes_ints s bound (i + (Utf8.decode s i).2) (acc ++ [((Utf8.decode s i).1 : Int)]) (fun x hx => by
        rcases List.mem_append.1 hx with e | e
        · exact h x e
        · rw [List.mem_singleton] at e
          subst e
          simp only [Lit.wf, IntKind.min, IntKind.max, IntKind.signed, IntKind.bits]
          simp
          omega)
      refine ⟨xs, ?_, h2⟩
      rw [← h1]
      simp
    · exact ⟨acc, rfl, h⟩
theorem runes_of (s : ByteArray) : ∃ xs : List Int, Conv.runesFrom s s.size 0 #[] = (xs.map (Value.int .i32)).toArray ∧ (∀ x ∈ xs, (Lit.int .i32 x).wf = true) ∧ xs.length ≤ s.size := by
  obtain ⟨xs, h1, h2⟩ := runes_ints s s.size 0 [] (fun x hx => by cases hx)
  have h1' : Conv.runesFrom s s.size 0 #[] = (xs.map (Value.int .i32)).toArray := h1
  refine ⟨xs, h1', h2, ?_⟩
  have := size_runesFrom s s.size 0 #[]
  rw [h1'] at this
  simpa using this
theorem conv_any (s : ByteArray) (xs : List Int) (n : Nat) (hn : xs.length = n) (h : Conv.runesFrom s s.size 0 #[] = (xs.map (Value.int .i32)).toArray) (hx : ∀ x ∈ xs, (Lit.int .i32 x).wf = true) (hl : n ≤ 1000) (w : World) :
    ∃ g W, (convert 9 39 (.string s)).run Try.prog w = .ok (.slice (some ⟨w.heap.size, 0, none⟩) n g) W ∧ Rd .i32 W (some ⟨w.heap.size, 0, none⟩) n g xs ∧ Below w.heap.size w W ∧ w.heap.size < W.heap.size := by
  subst hn
  have hsz : (Conv.runesFrom s s.size 0 #[]).size = xs.length := by rw [h]; simp
  have hcv := run_runes_of_string (P := Try.prog) w 9 39 21 s Try.underlying9 Try.underlying39 Try.underlying21 (by omega)
  rw [hsz, h] at hcv
  obtain ⟨g, hg⟩ : ∃ g, grownCap w xs.length 0 21 = g := ⟨_, rfl⟩
  have hge := grownCap_ge w xs.length 0 21
  have hle := grownCap_le_maxLen w xs.length 0 21 (by unfold maxLen; omega)
  rw [hg] at hcv hge hle
  refine ⟨g, _, hcv, ⟨rfl, hge, hle, hx, (fun e => by cases e), fun hp => ⟨_, 0, rfl, fun i hi => ?_⟩⟩, (Below.refl _ w).drew.alloc (Nat.le_refl _) _, ?_⟩
  · have := heap_alloc_new w.drew (.cells ((xs.map (Value.int .i32)).toArray ++ Array.replicate (g - xs.length) (.int .i32 0)) 21)
    have h2 := cell_of_row _ w.drew.heap.size (0 + i) _ _ _ this
    refine h2.trans ?_
    rw [Nat.zero_add, Array.getElem?_append_left (by simp; exact hi)]
    simp only [List.getElem?_toArray, List.getElem?_map]
    rw [List.getElem?_eq_getElem hi, List.getD_eq_getElem?_getD, List.getElem?_eq_getElem hi]
    rfl
  · have := heap_lt (heap_alloc_new w.drew (.cells ((xs.map (Value.int .i32)).toArray ++ Array.replicate (g - xs.length) (.int .i32 0)) 21))
    exact this
/-- one row, laid as the only one -/
theorem one_new {B n g : Nat} {W : World} {ra : Option Addr} {xs : List Int} (h : Rd .i32 W ra n g xs) (hF : InF (fun k => B ≤ k) ra n) (hB : B ≤ W.heap.size) : RdL (fun k => B ≤ k) (W.alloc (.cells #[.slice ra n g] 39)) (some ⟨W.heap.size, 0, none⟩) 1 1 [xs] := by
  have hn := h.len
  subst hn
  have hg := heap_alloc_new W (.cells #[.slice ra xs.length g] 39)
  refine ⟨[.slice ra xs.length g], ⟨rfl, Nat.le_refl _, by unfold maxLen; omega, (fun e => by cases e), fun _ => ⟨_, 0, rfl, heap_lt hg, fun j u hu => ?_⟩⟩, fun _ ad e => by cases e; exact hB, ?_⟩
  · rw [cell_row hg, Nat.zero_add]; simpa using hu
  · exact RowsAt.one (h.alloc _) hF
theorem char_any (s : ByteArray) (xs : List Int) (n : Nat) (hn : xs.length = n) (h : Conv.runesFrom s s.size 0 #[] = (xs.map (Value.int .i32)).toArray) (hx : ∀ x ∈ xs, (Lit.int .i32 x).wf = true) (hl : n ≤ 1000) (w : World) :
    Calls Try.prog 20 #[.string s] w fun e w' => ∃ a c, e = .returned (.agg #[.int .i64 0, .slice a 1 c]) ∧ Hid (RdL (fun k => w.heap.size ≤ k) w' a 1 c [xs] ∧ Below w.heap.size w w') := by
  obtain ⟨wb, hwb⟩ : ∃ wb, w.alloc (.cells #[.int .i64 0, .slice none 0 0] 31) = wb := ⟨_, rfl⟩
  have hbx := box_new w 0 none 0 0
  rw [hwb] at hbx
  have hsz : wb.heap.size = w.heap.size + 1 := by rw [← hwb]; simp
  have hB : Below w.heap.size w wb := by rw [← hwb]; exact (Below.refl _ _).alloc (Nat.le_refl _) _
  obtain ⟨g, W, hcv, hrd, hbW, hlW⟩ := conv_any s xs n hn h hx hl wb
  have hX := hbx W (by rw [← hsz]; exact hbW)
  have HB := Lib.hid hB
  have HW := Lib.hid hwb
  have HR := Lib.hid (And.intro hrd (And.intro hbW (And.intro hsz hn)))
  clear h hx hB hwb hbx hrd hbW hn
  obtain ⟨b, hbe⟩ : ∃ b, w.heap.size = b := ⟨_, rfl⟩
  have HBE := Lib.hid hbe
  rw [hbe] at hX hsz
  rw [hsz] at hcv
  clear hbe hsz hlW
  obtain ⟨q0, q1, y0, y1, l0⟩ := hX
  go_enter Try.func20, Try.ntmps20
  go_upto_region 1 with fail
  rw [HW.out, HBE.out]
  go_wp2_with fail
  (try simp only [Exit.inBlock, Exit.then])
  refine bodyPost_ret (v := .agg #[.int .i64 0, .slice (some ⟨W.heap.size, 0, none⟩) 1 1]) ?_ rfl ⟨_, _, rfl, ?_⟩
  · rw [results_cell1 rfl]
    go_simp
  · obtain ⟨h1, h2, h3, h4⟩ := HR.out
    have h5 := HBE.out
    have hf : Fr (fun k => k = b) W ((W.setCell ⟨b, 0, none⟩ (.int .i64 0)).setCell ⟨b, 1, none⟩ (.slice (some ⟨W.heap.size, 0, none⟩) 1 1)) := ((Fr.refl (fun k => k = b) W).setCell ⟨b, 0, none⟩ _ (fun _ => rfl)).setCell ⟨b, 1, none⟩ _ (fun _ => rfl)
    have hs : ((W.setCell ⟨b, 0, none⟩ (.int .i64 0)).setCell ⟨b, 1, none⟩ (.slice (some ⟨W.heap.size, 0, none⟩) 1 1)).heap.size = W.heap.size := by simp
    have hin : InF (fun k => w.heap.size ≤ k ∧ k ≠ b) (some ⟨b + 1, 0, none⟩) n := fun _ ad e => by cases e; exact ⟨by simp only; omega, by simp only; omega⟩
    rw [h3, h5] at h1
    have h6 := h1.frF hin hf (fun k q1 q2 => q1.2 q2)
    have hsz2 := h2.size
    have h7 := one_new (B := w.heap.size) h6 (hin.mono (fun k q => q.1)) (by rw [hs]; omega)
    rw [hs] at h7
    refine ⟨h7, ?_⟩
    refine Below.alloc (Below.setCell (Below.setCell (HB.out.trans (h2.mono (by omega))) ?_ _) ?_ _) ?_ _
    · simp only; omega
    · simp only; omega
    · rw [hs]; omega
theorem line_any (s : ByteArray) (xs : List Int) (n : Nat) (hn : xs.length = n) (h : Conv.runesFrom s s.size 0 #[] = (xs.map (Value.int .i32)).toArray) (hx : ∀ x ∈ xs, (Lit.int .i32 x).wf = true) (hl : n ≤ 1000) (w : World) :
    Calls Try.prog 39 #[.string s] w fun e w' => ∃ a c, e = .returned (.agg #[.int .i64 1, .slice a 1 c]) ∧ Hid (RdL (fun k => w.heap.size ≤ k) w' a 1 c [xs] ∧ Below w.heap.size w w') := by
  obtain ⟨wb, hwb⟩ : ∃ wb, w.alloc (.cells #[.int .i64 0, .slice none 0 0] 31) = wb := ⟨_, rfl⟩
  have hbx := box_new w 0 none 0 0
  rw [hwb] at hbx
  have hsz : wb.heap.size = w.heap.size + 1 := by rw [← hwb]; simp
  have hB : Below w.heap.size w wb := by rw [← hwb]; exact (Below.refl _ _).alloc (Nat.le_refl _) _
  obtain ⟨g, W, hcv, hrd, hbW, hlW⟩ := conv_any s xs n hn h hx hl wb
  have hX := hbx W (by rw [← hsz]; exact hbW)
  have HB := Lib.hid hB
  have HW := Lib.hid hwb
  have HR := Lib.hid (And.intro hrd (And.intro hbW (And.intro hsz hn)))
  clear h hx hB hwb hbx hrd hbW hn
  obtain ⟨b, hbe⟩ : ∃ b, w.heap.size = b := ⟨_, rfl⟩
  have HBE := Lib.hid hbe
  rw [hbe] at hX hsz
  rw [hsz] at hcv
  clear hbe hsz hlW
  obtain ⟨q0, q1, y0, y1, l0⟩ := hX
  go_enter Try.func39, Try.ntmps39
  go_upto_region 1 with fail
  rw [HW.out, HBE.out]
  go_wp2_with fail
  (try simp only [Exit.inBlock, Exit.then])
  refine bodyPost_ret (v := .agg #[.int .i64 1, .slice (some ⟨W.heap.size, 0, none⟩) 1 1]) ?_ rfl ⟨_, _, rfl, ?_⟩
  · rw [results_cell1 rfl]
    go_simp
  · obtain ⟨h1, h2, h3, h4⟩ := HR.out
    have h5 := HBE.out
    have hf : Fr (fun k => k = b) W ((W.setCell ⟨b, 0, none⟩ (.int .i64 1)).setCell ⟨b, 1, none⟩ (.slice (some ⟨W.heap.size, 0, none⟩) 1 1)) := ((Fr.refl (fun k => k = b) W).setCell ⟨b, 0, none⟩ _ (fun _ => rfl)).setCell ⟨b, 1, none⟩ _ (fun _ => rfl)
    have hs : ((W.setCell ⟨b, 0, none⟩ (.int .i64 1)).setCell ⟨b, 1, none⟩ (.slice (some ⟨W.heap.size, 0, none⟩) 1 1)).heap.size = W.heap.size := by simp
    have hin : InF (fun k => w.heap.size ≤ k ∧ k ≠ b) (some ⟨b + 1, 0, none⟩) n := fun _ ad e => by cases e; exact ⟨by simp only; omega, by simp only; omega⟩
    rw [h3, h5] at h1
    have h6 := h1.frF hin hf (fun k q1 q2 => q1.2 q2)
    have hsz2 := h2.size
    have h7 := one_new (B := w.heap.size) h6 (hin.mono (fun k q => q.1)) (by rw [hs]; omega)
    rw [hs] at h7
    refine ⟨h7, ?_⟩
    refine Below.alloc (Below.setCell (Below.setCell (HB.out.trans (h2.mono (by omega))) ?_ _) ?_ _) ?_ _
    · simp only; omega
    · simp only; omega
    · rw [hs]; omega
/-- registers of the program's, made since w0, and blocks D of the caller's own -/
def AwG (w0 W : World) (b : Nat) (s : List Nm) (D : Nat → Prop) : Prop := Below w0.heap.size w0 W ∧ (∀ k, D k → w0.heap.size ≤ k ∧ k < W.heap.size) ∧ ∃ P, GSt P W b s ∧ (∀ k, P k → w0.heap.size ≤ k) ∧ ∀ k, P k → ¬ D k
section
variable {w0 W W2 : World} {b : Nat} {s : List Nm} {D D2 : Nat → Prop}
theorem AwG.bel (h : AwG w0 W b s D) : Below w0.heap.size w0 W := h.1
/-- other blocks of the caller's own -/
theorem AwG.turn (h : AwG w0 W b s D) (hb : Below W.heap.size W W2) (hD : ∀ k, D2 k → (D k ∨ W.heap.size ≤ k) ∧ k < W2.heap.size) : AwG w0 W2 b s D2 := by
  obtain ⟨h1, hd, P, h2, h3, h4⟩ := h
  refine ⟨h1.trans (hb.mono h1.size), fun k hk => ⟨?_, (hD k hk).2⟩, P, h2.below hb, h3, fun k hp hk => ?_⟩
  · rcases (hD k hk).1 with q | q
    · exact (hd k q).1
    · exact Nat.le_trans h1.size q
  · rcases (hD k hk).1 with q | q
    · exact h4 k hp q
    · have := h2.lt k hp; omega
theorem AwG.below (h : AwG w0 W b s D) (hb : Below W.heap.size W W2) : AwG w0 W2 b s D := h.turn hb (fun k hk => ⟨.inl hk, Nat.lt_of_lt_of_le (h.2.1 k hk).2 hb.size⟩)
/-- a store into a block of the caller's own -/
theorem AwG.mine (h : AwG w0 W b s D) (hf : Fr D W W2) : AwG w0 W2 b s D := by
  obtain ⟨h1, hd, P, h2, h3, h4⟩ := h
  exact ⟨h1.trans (hf.below h1.size (fun k hk => (hd k hk).1)), fun k hk => ⟨(hd k hk).1, Nat.lt_of_lt_of_le (hd k hk).2 hf.size⟩, P, h2.fr hf h4, h3, h4⟩
theorem AwG.af {s2 : List Nm} {P : Nat → Prop} (h1 : Below w0.heap.size w0 W) (hd : ∀ k, D k → w0.heap.size ≤ k ∧ k < W.heap.size) (h3 : ∀ k, P k → w0.heap.size ≤ k) (h4 : ∀ k, P k → ¬ D k) (ha : AfG P W W2 b s2) :
    AwG w0 W2 b s2 D ∧ Fr (fun k => ¬ D k) W W2 := by
  obtain ⟨P', q1, q2, q3⟩ := ha
  have hs1 := h1.size
  refine ⟨⟨h1.trans (q2.below hs1 h3), fun k hk => ⟨(hd k hk).1, Nat.lt_of_lt_of_le (hd k hk).2 q2.size⟩, P', q1, fun x hx => ?_, fun x hx hdx => ?_⟩, q2.mono (fun x _ hp hd => h4 x hp hd)⟩
  · rcases q3 x hx with e | e
    · exact h3 x e
    · omega
  · rcases q3 x hx with e | e
    · exact h4 x e hdx
    · have := (hd x hdx).2; omega
theorem AwG.put {F : Nat → Prop} {r k : Int} {a : Option Addr} {n c : Nat} {L : List (List Int)} {d : Bool} (h : AwG w0 W b s D) (hr : RdL F W a n c L) (hs : sizeR L ≤ 1048576) (hwr : (Lit.int .i32 r).wf = true) :
    Calls Try.prog 15 #[.pointer (some ⟨b, 0, none⟩), .int .i32 r, .agg #[.int .i64 k, .slice a n c], .bool d] W fun e w' => e = .returned (.int .i64 (putR s r ⟨k, L⟩ d).2) ∧ AwG w0 w' b (putR s r ⟨k, L⟩ d).1 D ∧ Fr (fun k => ¬ D k) W w' := by
  obtain ⟨h1, hd, P, h2, h3, h4⟩ := h
  refine (pput_whole F P b s r k a n c L d W h2 hr hs hwr).mono ?_
  rintro e w' ⟨he, ha⟩
  exact ⟨he, AwG.af h1 hd h3 h4 ha⟩
theorem AwG.get {n : Int} {g : Rg} {er : Int} (h : AwG w0 W b s D) (hwf : (Lit.int .i32 n).wf = true) (hg : getR s n = (g, er)) :
    Calls Try.prog 11 #[.pointer (some ⟨b, 0, none⟩), .int .i32 n] W fun e w' => ∃ a c, e = .returned (.tuple #[.agg #[.int .i64 g.k, .slice a g.L.length c], .int .i64 er]) ∧ Hid (FreshL W.heap.size w' a g.L.length c g.L ∧ (∀ x ∈ g.L, ∀ y ∈ x, (Lit.int .i32 y).wf = true) ∧ Below W.heap.size W w') := by
  obtain ⟨h1, hd, P, h2, h3, h4⟩ := h
  refine (pget_any P b s n W h2 hwf).mono ?_
  rw [hg]
  rintro e w' ⟨a, c, rfl, q1, q2, q3⟩
  exact ⟨a, c, rfl, q1, q2, q3⟩
theorem AwG.all (h : AwG w0 W b s D) :
    Calls Try.prog 18 #[.pointer (some ⟨b, 0, none⟩)] W fun e w' => ∃ a c, e = .returned (.slice a s.length c) ∧ Hid (RdN (fun k => W.heap.size ≤ k) w' a s.length c s ∧ Below W.heap.size W w') := by
  obtain ⟨h1, hd, P, h2, h3, h4⟩ := h
  refine (pall_any P b s W h2).mono ?_
  rintro e w' ⟨a, c, rfl, q1, q2⟩
  exact ⟨a, c, rfl, q1, q2⟩
theorem AwG.ok (h : AwG w0 W b s D) : OkS s := by obtain ⟨h1, hd, P, h2, h3⟩ := h; exact h2.ok
theorem AwG.names (h : AwG w0 W b s D) : OkN s := by obtain ⟨h1, hd, P, h2, h3⟩ := h; exact h2.names
/-- one line is put -/
theorem AwG.put1 {r k : Int} {a : Option Addr} {c : Nat} {xs : List Int} {d : Bool} {s2 : List Nm} {er : Int} (h : AwG w0 W b s D) (hr : ∃ F, RdL F W a 1 c [xs]) (hs : xs.length ≤ 1000000) (hwr : (Lit.int .i32 r).wf = true) (hp : putR s r ⟨k, [xs]⟩ d = (s2, er)) :
    Calls Try.prog 15 #[.pointer (some ⟨b, 0, none⟩), .int .i32 r, .agg #[.int .i64 k, .slice a 1 c], .bool d] W fun e w' => e = .returned (.int .i64 er) ∧ Hid (AwG w0 w' b s2 D ∧ Fr (fun k => ¬ D k) W w') := by
  obtain ⟨F, hr⟩ := hr
  refine (h.put hr (by simp [sizeR, lens, sizeN]; omega) hwr).mono ?_
  rw [hp]
  rintro e w' ⟨rfl, q⟩
  exact ⟨rfl, q⟩
end
/-- New -/
theorem new_aw (w0 w : World) (h : Below w0.heap.size w0 w) : Calls Try.prog 9 #[] w fun e w' => e = .returned (.pointer (some ⟨w.heap.size, 0, none⟩)) ∧ Hid (AwG w0 w' w.heap.size [] (fun _ => False) ∧ Below w.heap.size w w') := by
  refine (pnew_any w).mono ?_
  rintro e w' ⟨rfl, h1, h2⟩
  have := h.size
  exact ⟨rfl, ⟨h.trans (h2.mono this), fun _ h => h.elim, _, h1, fun k hk => by omega, fun _ _ h => h⟩, h2⟩
/-- the chapter's examples, step by step -/
def sA1 : List Nm := [(34, ⟨0, [[120, 121]]⟩), (97, ⟨0, [[120, 121]]⟩)]
def sA2 : List Nm := [(34, ⟨1, [[120, 121], [122]]⟩), (97, ⟨1, [[120, 121], [122]]⟩)]
def sA3 : List Nm := [(34, ⟨1, [[108]]⟩), (49, ⟨1, [[108]]⟩), (97, ⟨1, [[120, 121], [122]]⟩)]
def sA4 : List Nm := [(34, ⟨1, [[109]]⟩), (49, ⟨1, [[109]]⟩), (50, ⟨1, [[108]]⟩), (97, ⟨1, [[120, 121], [122]]⟩)]
theorem pA1 : putR [] 97 ⟨0, [[120, 121]]⟩ false = (sA1, 0) := by decide
theorem pA2 : putR sA1 65 ⟨1, [[122]]⟩ false = (sA2, 0) := by decide
theorem gA2 : getR sA2 97 = (⟨1, [[120, 121], [122]]⟩, 0) := by decide
theorem pA3 : putR sA2 0 ⟨1, [[108]]⟩ true = (sA3, 0) := by decide
theorem pA4 : putR sA3 0 ⟨1, [[109]]⟩ true = (sA4, 0) := by decide
theorem gA4 : getR sA4 50 = (⟨1, [[108]]⟩, 0) := by decide
theorem pA5 : putR sA4 49 ⟨0, [[]]⟩ false = (sA4, 1) := by decide
theorem chr1 (w : World) : Calls Try.prog 20 #[.string ⟨#[120, 121]⟩] w fun e w' => ∃ a c, e = .returned (.agg #[.int .i64 0, .slice a 1 c]) ∧ Hid (RdL (fun k => w.heap.size ≤ k) w' a 1 c [[120, 121]] ∧ Below w.heap.size w w') := char_any _ [120, 121] 2 rfl (by kernel_rfl) (by decide) (by omega) w
theorem chr0 (w : World) : Calls Try.prog 20 #[.string ⟨#[]⟩] w fun e w' => ∃ a c, e = .returned (.agg #[.int .i64 0, .slice a 1 c]) ∧ Hid (RdL (fun k => w.heap.size ≤ k) w' a 1 c [[]] ∧ Below w.heap.size w w') := char_any _ [] 0 rfl (by kernel_rfl) (by decide) (by omega) w
theorem lin1 (w : World) : Calls Try.prog 39 #[.string ⟨#[122]⟩] w fun e w' => ∃ a c, e = .returned (.agg #[.int .i64 1, .slice a 1 c]) ∧ Hid (RdL (fun k => w.heap.size ≤ k) w' a 1 c [[122]] ∧ Below w.heap.size w w') := line_any _ [122] 1 rfl (by kernel_rfl) (by decide) (by omega) w
theorem lin2 (w : World) : Calls Try.prog 39 #[.string ⟨#[108]⟩] w fun e w' => ∃ a c, e = .returned (.agg #[.int .i64 1, .slice a 1 c]) ∧ Hid (RdL (fun k => w.heap.size ≤ k) w' a 1 c [[108]] ∧ Below w.heap.size w w') := line_any _ [108] 1 rfl (by kernel_rfl) (by decide) (by omega) w
theorem lin3 (w : World) : Calls Try.prog 39 #[.string ⟨#[109]⟩] w fun e w' => ∃ a c, e = .returned (.agg #[.int .i64 1, .slice a 1 c]) ∧ Hid (RdL (fun k => w.heap.size ≤ k) w' a 1 c [[109]] ∧ Below w.heap.size w w') := line_any _ [109] 1 rfl (by kernel_rfl) (by decide) (by omega) w
theorem rdl_lit2s (w : World) (x y : List Int) (cx cy : Array Value) (n m : Nat) (hcx : cx = (x.map (Value.int .i32)).toArray) (hcy : cy = (y.map (Value.int .i32)).toArray) (hx : x.length = n) (hy : y.length = m) (hn : n ≤ maxLen) (hm : m ≤ maxLen)
    (wx : ∀ z ∈ x, (Lit.int .i32 z).wf = true) (wy : ∀ z ∈ y, (Lit.int .i32 z).wf = true) :
    RdL (fun k => w.heap.size ≤ k ∧ k < w.heap.size + 3) (((w.alloc (.cells cy 21)).alloc (.cells cx 21)).alloc (.cells #[.slice (some ⟨w.heap.size + 1, 0, none⟩) n n, .slice (some ⟨w.heap.size, 0, none⟩) m m] 39)) (some ⟨w.heap.size + 2, 0, none⟩) 2 2 [x, y] := by
  have hg := heap_alloc_new ((w.alloc (.cells cy 21)).alloc (.cells cx 21)) (.cells #[.slice (some ⟨w.heap.size + 1, 0, none⟩) n n, .slice (some ⟨w.heap.size, 0, none⟩) m m] 39)
  have hsz : ((w.alloc (.cells cy 21)).alloc (.cells cx 21)).heap.size = w.heap.size + 2 := by simp
  rw [hsz] at hg
  have r1 := (Rd_new .i32 w y cy 21 m hcy hy hm wy).below (((Below.refl _ _).alloc (Nat.le_refl _) (.cells cx 21)).alloc (by simp) (.cells #[.slice (some ⟨w.heap.size + 1, 0, none⟩) n n, .slice (some ⟨w.heap.size, 0, none⟩) m m] 39))
  have r2 := (Rd_new .i32 (w.alloc (.cells cy 21)) x cx 21 n hcx hx hn wx).below ((Below.refl _ _).alloc (Nat.le_refl _) (.cells #[.slice (some ⟨w.heap.size + 1, 0, none⟩) n n, .slice (some ⟨w.heap.size, 0, none⟩) m m] 39))
  have hs1 : (w.alloc (.cells cy 21)).heap.size = w.heap.size + 1 := by simp
  rw [hs1] at r2
  refine ⟨[.slice (some ⟨w.heap.size + 1, 0, none⟩) n n, .slice (some ⟨w.heap.size, 0, none⟩) m m], ⟨rfl, Nat.le_refl _, by unfold maxLen; omega, (fun e => by cases e), fun _ => ⟨_, 0, rfl, heap_lt hg, fun j u hu => ?_⟩⟩, fun _ ad e => by cases e; exact ⟨by simp, by simp⟩, ?_⟩
  · rw [cell_row hg, Nat.zero_add]
    simpa using hu
  · exact (RowsAt.one r2 (fun _ ad e => by cases e; exact ⟨by simp, by simp⟩)).append (RowsAt.one r1 (fun _ ad e => by cases e; exact ⟨by simp, by simp⟩))
end Go.Proofs.Ytleidcegbfnmkaa.U
