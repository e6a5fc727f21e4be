/-
  A table in memory; the contracts of Len, Pieces, lacks, runes.
-/
import Derived.Test.YtndlebopfojjeaaPPut
namespace Go.Proofs.Ytndlebopfojjeaa.U
open Go.RowKit
set_option linter.unusedVariables false
set_option linter.unusedSimpArgs false
set_option maxRecDepth 100000

/-- a table's parts -/
structure TD where
  fs : List Int
  gs : List Int
  fv : Value
  gv : Value
  v : Value
  sv : Value
  rem : Bool
  ps : List Pc
  ss : List (Value × List Pc)

def rowCells (x : Value × List Pc) : List Value := [x.1, .int .i64 (sumL x.2 : Nat), .bool true]
def flatR (ss : List (Value × List Pc)) : List Value := ss.flatMap rowCells
theorem flatR_len (ss : List (Value × List Pc)) : (flatR ss).length = ss.length * 3 := by
  induction ss with
  | nil => rfl
  | cons x r ih =>
    have e : flatR (x :: r) = rowCells x ++ flatR r := by simp [flatR]
    rw [e, List.length_append, ih]
    simp [rowCells]; omega
theorem flatR_snoc (ss : List (Value × List Pc)) (x : Value × List Pc) : flatR (ss ++ [x]) = flatR ss ++ rowCells x := by simp [flatR]
theorem flatR_at : ∀ (ss : List (Value × List Pc)) (i j : Nat) (x : Value × List Pc), ss[i]? = some x → j < 3 → (flatR ss)[i * 3 + j]? = (rowCells x)[j]?
  | y :: r, 0, j, x, h, hj => by
    have e : flatR (y :: r) = rowCells y ++ flatR r := by simp [flatR]
    simp at h
    subst h
    rw [e, Nat.zero_mul, Nat.zero_add, List.getElem?_append_left (by simp [rowCells]; omega)]
  | y :: r, i + 1, j, x, h, hj => by
    have e : flatR (y :: r) = rowCells y ++ flatR r := by simp [flatR]
    rw [e, List.getElem?_append_right (by simp [rowCells]; omega)]
    have e2 : (i + 1) * 3 + j - (rowCells y).length = i * 3 + j := by simp [rowCells]; omega
    rw [e2]
    exact flatR_at r i j x (by simpa using h) hj

def TD.row (D : TD) : List Int := cont D.fs D.gs D.ps
def TD.kept (D : TD) : List (List Int) := D.ss.map fun x => cont D.fs D.gs x.2

/-- A table in block bt: all that it reads and writes lies in the blocks of F. -/
structure TabOk (w : World) (F : Nat → Prop) (bt : Nat) (D : TD) : Prop where
  tb : TB w bt D.fv D.gv D.v (sumL D.ps : Nat) D.rem D.sv
  fo : w.ownsRow 0 21 1 D.fv D.fs.length (D.fs.map (Value.int .i32))
  go : w.ownsRow 0 21 1 D.gv D.gs.length (D.gs.map (Value.int .i32))
  fg : ∀ k, D.fv.ownBlock = some k → D.gv.ownBlock ≠ some k
  po : w.ownsRow 0 105 3 D.v D.ps.length (flatP D.ps)
  so : w.ownsRow 0 99 3 D.sv D.ss.length (flatR D.ss)
  each : ∀ x ∈ D.ss, w.ownsRow 0 105 3 x.1 x.2.length (flatP x.2) ∧ (∀ k, x.1.ownBlock = some k → F k ∧ (D.rem = false → D.v.ownBlock ≠ some k)) ∧ oks D.fs.length D.gs.length x.2 ∧ sumL x.2 ≤ 65536
  inF : F bt ∧ (∀ k, D.fv.ownBlock = some k → F k) ∧ (∀ k, D.gv.ownBlock = some k → F k) ∧ (∀ k, D.v.ownBlock = some k → F k) ∧ (∀ k, D.sv.ownBlock = some k → F k)
  ok : oks D.fs.length D.gs.length D.ps
  room : sumL D.ps ≤ 65536
  small : D.fs.length ≤ 65536
  wf1 : ∀ x ∈ D.fs, (Lit.int .i32 x).wf = true
  wf2 : ∀ x ∈ D.gs, (Lit.int .i32 x).wf = true
  lt : ∀ k, F k → k < w.heap.size

theorem TabOk.fr {w w' : World} {F G : Nat → Prop} {bt : Nat} {D : TD} (h : TabOk w F bt D) (hf : Fr G w w') (hd : ∀ k, F k → ¬ G k) : TabOk w' F bt D where
  tb := h.tb.keep (hf.block bt h.tb.lt (hd _ h.inF.1))
  fo := own_fr h.fo hf (fun k e => hd k (h.inF.2.1 k e))
  go := own_fr h.go hf (fun k e => hd k (h.inF.2.2.1 k e))
  fg := h.fg
  po := own_fr h.po hf (fun k e => hd k (h.inF.2.2.2.1 k e))
  so := own_fr h.so hf (fun k e => hd k (h.inF.2.2.2.2 k e))
  each := fun x hx => ⟨own_fr (h.each x hx).1 hf (fun k e => hd k ((h.each x hx).2.1 k e).1), (h.each x hx).2⟩
  inF := h.inF
  ok := h.ok
  room := h.room
  small := h.small
  wf1 := h.wf1
  wf2 := h.wf2
  lt := fun k hk => Nat.lt_of_lt_of_le (h.lt k hk) hf.size
theorem TabOk.below {w w' : World} {F : Nat → Prop} {bt : Nat} {D : TD} (h : TabOk w F bt D) (hb : Below w.heap.size w w') : TabOk w' F bt D :=
  h.fr (Fr.of_below (fun _ => False) hb) (fun _ _ h => h)
theorem TabOk.mono {w : World} {F G : Nat → Prop} {bt : Nat} {D : TD} (h : TabOk w F bt D) (hg : ∀ k, F k → G k) (hlt : ∀ k, G k → k < w.heap.size) : TabOk w G bt D :=
  { h with
    each := fun x hx => ⟨(h.each x hx).1, fun k e => ⟨hg k ((h.each x hx).2.1 k e).1, ((h.each x hx).2.1 k e).2⟩, (h.each x hx).2.2⟩
    inF := ⟨hg _ h.inF.1, fun k e => hg k (h.inF.2.1 k e), fun k e => hg k (h.inF.2.2.1 k e), fun k e => hg k (h.inF.2.2.2.1 k e), fun k e => hg k (h.inF.2.2.2.2 k e)⟩
    lt := hlt }

theorem TabOk.len {w F bt D} (h : TabOk w F bt D) : D.row.length = sumL D.ps := cont_len h.ok

theorem len_any (bt : Nat) (F : Nat → Prop) (D : TD) (w : World) (h : TabOk w F bt D) :
    Calls Try.prog 105 #[.pointer (some ⟨bt, 0, none⟩)] w fun e w' => e = .returned (.int .i64 (D.row.length : Nat)) ∧ w = w' := by
  have c3 := h.tb.c3
  rw [h.len]
  have hlt := h.tb.lt
  clear h
  go_enter Try.func105, Try.ntmps105
  go_wp2
  go_ret
  exact ⟨rfl, rfl⟩

def codeB (b : Bool) : Int := if b then 0 else 2
theorem lacks_any (bt : Nat) (f a p s : Value) (len : Nat) (rem : Bool) (i n : Int) (w : World) (h : TB w bt f a p (len : Nat) rem s) (hl : len ≤ 65536) (hi : -9223372036854775808 ≤ i ∧ i ≤ 9223372036854775807) (hn : -9223372036854775808 ≤ n ∧ n ≤ 9223372036854775807) :
    Calls Try.prog 107 #[.pointer (some ⟨bt, 0, none⟩), .int .i64 i, .int .i64 n] w fun e w' => e = .returned (.int .i64 (codeB (hasB len i n))) ∧ w = w' := by
  have c3 := h.c3
  have hlt := h.lt
  obtain ⟨i1, i2⟩ := hi
  obtain ⟨n1, n2⟩ := hn
  clear h
  by_cases h1 : i < 0
  · have e : hasB len i n = false := by simp [hasB]; omega
    rw [e]
    go_enter Try.func107, Try.ntmps107
    go_wp2
    go_ret
    exact ⟨rfl, rfl⟩
  have h1' : 0 ≤ i := by omega
  by_cases h2 : n < 0
  · have e : hasB len i n = false := by simp [hasB]; omega
    rw [e]
    go_enter Try.func107, Try.ntmps107
    go_wp2
    go_ret
    exact ⟨rfl, rfl⟩
  have h2' : 0 ≤ n := by omega
  by_cases h3 : (len : Int) - i < n
  · have e : hasB len i n = false := by simp [hasB]; omega
    rw [e]
    go_enter Try.func107, Try.ntmps107
    go_wp2
    go_ret
    exact ⟨rfl, rfl⟩
  · have e : hasB len i n = true := by simp [hasB]; omega
    rw [e]
    have h3' : n ≤ (len : Int) - i := by omega
    go_enter Try.func107, Try.ntmps107
    go_wp2
    go_ret
    exact ⟨rfl, rfl⟩

theorem Rd.short {k w a n c xs} (h : Rd k w (some a) n c xs) : Rd k w (some a) n n xs :=
  ⟨h.1, Nat.le_refl _, Nat.le_trans h.2.1 h.2.2.1, h.2.2.2.1, (fun e => by cases e), h.2.2.2.2.2⟩
/-- a row's piece -/
theorem piece_rd {w : World} {v : Value} {xs : List Int} {fr tt : Nat} (h : w.ownsRow 0 21 1 v xs.length (xs.map (Value.int .i32))) (hw : ∀ x ∈ xs, (Lit.int .i32 x).wf = true) (h1 : fr < tt) (h2 : tt ≤ xs.length) :
    ∃ g c, v = .slice (some ⟨g, 0, none⟩) xs.length c ∧ xs.length ≤ c ∧ c ≤ maxLen ∧ g < w.heap.size ∧ Rd .i32 w (some ⟨g, fr, none⟩) (tt - fr) (tt - fr) ((xs.take tt).drop fr) := by
  obtain ⟨a, c, hv⟩ := own_slice h
  subst hv
  obtain ⟨g, rfl⟩ := own_some h (by omega)
  have hr := Rd.own (k := .i32) (xs := xs) h hw
  have hrd := (hr.take tt h2).drop fr (by omega)
  have hc := hr.2.1
  have hcm := hr.2.2.1
  rw [if_neg (by omega)] at hrd
  have e : Option.map (fun x : Addr => x.add (fr * 1)) (some ⟨g, 0, none⟩) = some ⟨g, fr, none⟩ := by simp [add_lit]
  rw [e] at hrd
  exact ⟨g, c, rfl, hc, hcm, (h.lt g rfl).2, hrd.short⟩

/-- a piece's runes, cut from its store -/
theorem runes_is (bt : Nat) (F : Nat → Prop) (D : TD) (ad : Bool) (fr tt : Nat) (w : World) (h : TabOk w F bt D) (hp : (Pc.mk ad fr tt).ok D.fs.length D.gs.length) (hg : D.gs.length ≤ lim) :
    Calls Try.prog 109 #[.pointer (some ⟨bt, 0, none⟩), .agg #[.bool ad, .int .i64 fr, .int .i64 tt]] w fun e w' => ∃ g, e = .returned (.slice (some ⟨g, fr, none⟩) (tt - fr) (tt - fr)) ∧ (∀ W, Below w.heap.size w W → Rd .i32 W (some ⟨g, fr, none⟩) (tt - fr) (tt - fr) (Pc.runes D.fs D.gs ⟨ad, fr, tt⟩)) ∧ F g ∧ Below w.heap.size w w' := by
  have hlt := h.tb.lt
  have hsm := h.small
  obtain ⟨h1, h2⟩ := hp
  unfold Pc.runes
  unfold lim at hg
  simp only at h1 h2 ⊢
  have c0 := h.tb.c0
  have c1 := h.tb.c1
  cases ad with
  | true =>
    simp only [↓reduceIte] at h2 ⊢
    obtain ⟨g, c, hv, hc, hcm, hgl, hrd⟩ := piece_rd h.go h.wf2 h1 h2
    have hF : F g := h.inF.2.2.1 g (by rw [hv]; rfl)
    rw [hv] at c1
    have HRD := Lib.hid hrd
    have HF := Lib.hid hF
    obtain ⟨n, hn⟩ : ∃ n, D.gs.length = n := ⟨_, rfl⟩
    rw [hn] at h2 c1 hc hg
    have hcm' : c ≤ 9223372036854775807 := by unfold maxLen at hcm; omega
    clear hrd hF hv hn h
    go_enter Try.func109, Try.ntmps109
    go_wp2_with fail
    go_quiet (fail)
    go_wp2_with fail
    go_ret
    exact ⟨g, rfl, fun W hW => HRD.out.below hW, HF.out, bdrewN ((Below.refl _ _).alloc (Nat.le_refl _) _) _⟩
  | false =>
    simp only [Bool.false_eq_true, ↓reduceIte] at h2 ⊢
    obtain ⟨g, c, hv, hc, hcm, hgl, hrd⟩ := piece_rd h.fo h.wf1 h1 h2
    have hF : F g := h.inF.2.1 g (by rw [hv]; rfl)
    rw [hv] at c0
    have HRD := Lib.hid hrd
    have HF := Lib.hid hF
    obtain ⟨n, hn⟩ : ∃ n, D.fs.length = n := ⟨_, rfl⟩
    rw [hn] at h2 c0 hc hsm
    have hcm' : c ≤ 9223372036854775807 := by unfold maxLen at hcm; omega
    clear hrd hF hv hn h
    go_enter Try.func109, Try.ntmps109
    go_wp2_with fail
    go_quiet (fail)
    go_wp2_with fail
    go_ret
    exact ⟨g, rfl, fun W hW => HRD.out.below hW, HF.out, bdrewN ((Below.refl _ _).alloc (Nat.le_refl _) _) _⟩
end Go.Proofs.Ytndlebopfojjeaa.U
