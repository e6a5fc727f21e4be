/-
  The contracts of Insert, Delete.
-/
import Derived.Test.YtndlebopfojjeaaPTab
namespace Go.Proofs.Ytndlebopfojjeaa.U
open Go.RowKit
set_option linter.unusedVariables false
set_option linter.unusedSimpArgs false
set_option maxRecDepth 100000

/-- the blocks of F, and all new ones -/
def plus (F : Nat → Prop) (w w' : World) (k : Nat) : Prop := (F k ∨ w.heap.size ≤ k) ∧ k < w'.heap.size

theorem tb_ne {w : World} {bt : Nat} {f a p s v : Value} {len : Int} {rem : Bool} {B sz n k : Nat} {e : TypeId} {xs : List Value} (hT : TB w bt f a p len rem s) (h : w.ownsRow B e sz v n xs) (hne : e ≠ 102) (hk : v.ownBlock = some k) : k ≠ bt := row_block_apart h hT hne hk

/-- the row at hand is another one -/
theorem tab_row {w w' : World} {F : Nat → Prop} {bt : Nat} {D : TD} {v' : Value} {ps' : List Pc} (h : TabOk w F bt D) (hR : RowAt w' bt D.fv D.gv D.sv v' (sumL ps' : Nat) ps') (hf : Fr (touchR bt D.rem D.v) w w') (hN : NearR w D.rem D.v v')
    (hok : oks D.fs.length D.gs.length ps') (hroom : sumL ps' ≤ 65536) : TabOk w' (plus F w w') bt { D with v := v', rem := false, ps := ps' } := by
  have far : ∀ {B sz n : Nat} {e : TypeId} {u : Value} {xs : List Value}, w.ownsRow B e sz u n xs → e ≠ 102 → e ≠ 105 → w'.ownsRow B e sz u n xs := fun ho h1 h2 =>
    own_fr ho hf (fun k hk => by
      rintro (e | ⟨_, e⟩)
      · exact tb_ne h.tb ho h1 hk e
      · exact rows_apart ho h.po h2 hk e)
  have inn : ∀ {k : Nat}, F k → plus F w w' k := fun hk => ⟨.inl hk, Nat.lt_of_lt_of_le (h.lt _ hk) hf.size⟩
  refine { tb := hR.1, fo := far h.fo (by decide) (by decide), go := far h.go (by decide) (by decide), fg := h.fg, po := hR.2, so := far h.so (by decide) (by decide), each := ?_, inF := ?_, ok := hok, room := hroom, small := h.small, wf1 := h.wf1, wf2 := h.wf2, lt := fun k hk => hk.2 }
  · intro x hx
    obtain ⟨h1, h2, h3⟩ := h.each x hx
    refine ⟨own_fr h1 hf (fun k hk => ?_), fun k hk => ⟨inn (h2 k hk).1, fun _ => ?_⟩, h3⟩
    · rintro (e | ⟨e1, e2⟩)
      · exact tb_ne h.tb h1 (by decide) hk e
      · exact (h2 k hk).2 e1 e2.symm
    · rcases hN with ⟨e1, e2⟩ | e
      · show v'.ownBlock ≠ _
        rw [e2]
        exact (h2 k hk).2 e1
      · intro e3
        have := e k e3
        have := (h1.lt k hk).2
        omega
  · refine ⟨inn h.inF.1, fun k e => inn (h.inF.2.1 k e), fun k e => inn (h.inF.2.2.1 k e), fun k e => ?_, fun k e => inn (h.inF.2.2.2.2 k e)⟩
    refine ⟨?_, (hR.2.lt k e).2⟩
    rcases hN with ⟨e1, e2⟩ | e3
    · exact .inl (h.inF.2.2.2.1 k (by rw [← e2]; exact e))
    · exact .inr (e3 k e)

/-- more is added -/
theorem tab_add {w w' : World} {F : Nat → Prop} {bt : Nat} {D : TD} {gv' : Value} {xs : List Int} (h : TabOk w F bt D) (ho : w'.ownsRow 0 21 1 gv' (D.gs.length + xs.length) (D.gs.map (Value.int .i32) ++ xs.map (Value.int .i32))) (hf : Fr (own1 D.gv) w w')
    (hN : gv'.ownBlock = D.gv.ownBlock ∨ gv'.ownBlock = some w.heap.size) (hw : ∀ x ∈ xs, (Lit.int .i32 x).wf = true) : TabOk (w'.setCell ⟨bt, 1, none⟩ gv') (plus F w (w'.setCell ⟨bt, 1, none⟩ gv')) bt { D with gs := D.gs ++ xs, gv := gv' } := by
  have hbt : ¬ own1 D.gv bt := fun e => tb_ne h.tb h.go (by decide) e.symm rfl
  have hT : TB w' bt D.fv D.gv D.v (sumL D.ps : Nat) D.rem D.sv := h.tb.keep (hf.block bt h.tb.lt hbt)
  have hf2 : Fr (fun k => k = bt ∨ own1 D.gv k) w (w'.setCell ⟨bt, 1, none⟩ gv') := (hf.mono (fun _ _ e => .inr e)).setCell _ _ (fun _ => .inl rfl)
  have far : ∀ {B sz n : Nat} {e : TypeId} {u : Value} {xs : List Value}, w.ownsRow B e sz u n xs → e ≠ 102 → e ≠ 21 → (w'.setCell ⟨bt, 1, none⟩ gv').ownsRow B e sz u n xs := fun ho h1 h2 =>
    own_fr ho hf2 (fun k hk => by
      rintro (e | e)
      · exact tb_ne h.tb ho h1 hk e
      · exact rows_apart ho h.go h2 hk e)
  have inn : ∀ {k : Nat}, F k → plus F w (w'.setCell ⟨bt, 1, none⟩ gv') k := fun hk => ⟨.inl hk, Nat.lt_of_lt_of_le (h.lt _ hk) hf2.size⟩
  have ho' : (w'.setCell ⟨bt, 1, none⟩ gv').ownsRow 0 21 1 gv' (D.gs ++ xs).length ((D.gs ++ xs).map (Value.int .i32)) := by
    rw [List.length_append, List.map_append]
    exact own_block ho (fun k hk => Below.heap_setCell _ _ _ _ (by exact tb_ne hT ho (by decide) hk))
  refine { tb := hT.set1 _, fo := ?_, go := ho', fg := ?_, po := far h.po (by decide) (by decide), so := far h.so (by decide) (by decide), each := ?_, inF := ?_, ok := h.ok.mono (by simp), room := h.room, small := h.small, wf1 := h.wf1, wf2 := ?_, lt := fun k hk => hk.2 }
  · exact own_fr h.fo hf2 (fun k hk => by
      rintro (e | e)
      · exact tb_ne h.tb h.fo (by decide) hk e
      · exact h.fg k hk e.symm)
  · intro k hk e
    rcases hN with e2 | e2
    · exact h.fg k hk (e2.symm.trans e)
    · have h1 : some w.heap.size = some k := e2.symm.trans e
      have := (h.fo.lt k hk).2
      simp at h1
      omega
  · intro x hx
    obtain ⟨h1, h2, h3, h4⟩ := h.each x hx
    exact ⟨far h1 (by decide) (by decide), fun k hk => ⟨inn (h2 k hk).1, (h2 k hk).2⟩, h3.mono (by simp), h4⟩
  · refine ⟨inn h.inF.1, fun k e => inn (h.inF.2.1 k e), fun k e => ?_, fun k e => inn (h.inF.2.2.2.1 k e), fun k e => inn (h.inF.2.2.2.2 k e)⟩
    rcases hN with e2 | e2
    · exact inn (h.inF.2.2.1 k (e2.symm.trans e))
    · have h1 : some w.heap.size = some k := e2.symm.trans e
      simp at h1
      exact ⟨.inr (by omega), (ho'.lt k e).2⟩
  · intro x hx
    rcases List.mem_append.1 hx with hx | hx
    · exact h.wf2 x hx
    · exact hw x hx

theorem plus_fr {F : Nat → Prop} {w w' : World} {k : Nat} (h : plus F w w' k) : F k ∨ w.heap.size ≤ k := h.1
theorem plus_trans {F : Nat → Prop} {w w' w'' : World} (hs : w.heap.size ≤ w'.heap.size) {k : Nat} (h : plus (plus F w w') w' w'' k) : F k ∨ w.heap.size ≤ k := by
  rcases h.1 with h | h
  · exact h.1
  · exact .inr (by omega)

/-- behind a deed -/
def After (w : World) (F : Nat → Prop) (bt : Nat) (D : TD) (row : List Int) (kept : List (List Int)) (m g : Nat) (w' : World) : Prop :=
  ∃ F' D', TabOk w' F' bt D' ∧ D'.row = row ∧ D'.kept = kept ∧ D'.ps.length ≤ D.ps.length + m ∧ D'.gs.length ≤ D.gs.length + g ∧ Fr F w w' ∧ ∀ k, F' k → F k ∨ w.heap.size ≤ k
theorem After.same {w w' : World} {F : Nat → Prop} {bt : Nat} {D : TD} (h : TabOk w F bt D) (hb : Below w.heap.size w w') (m g : Nat) : After w F bt D D.row D.kept m g w' :=
  ⟨F, D, h.below hb, rfl, rfl, Nat.le_add_right _ _, Nat.le_add_right _ _, Fr.of_below _ hb, fun _ hk => .inl hk⟩

theorem row_more {D : TD} {xs : List Int} {gv : Value} {w F bt} (h : TabOk w F bt D) : (TD.row { D with gs := D.gs ++ xs, gv := gv }) = D.row ∧ (TD.kept { D with gs := D.gs ++ xs, gv := gv }) = D.kept := by
  refine ⟨cont_more h.ok, ?_⟩
  unfold TD.kept
  refine List.map_congr_left (fun x hx => ?_)
  exact cont_more (h.each x hx).2.2.1

theorem insert_err (bt : Nat) (F : Nat → Prop) (D : TD) (a : Option Addr) (len cap : Nat) (i : Int) (w : World) (h : TabOk w F bt D) (hi : -9223372036854775808 ≤ i ∧ i ≤ 9223372036854775807) (hb : hasB D.row.length i 0 = false) :
    Calls Try.prog 104 #[.pointer (some ⟨bt, 0, none⟩), .int .i64 i, .slice a len cap] w fun e w' => e = .returned (.int .i64 2) ∧ w = w' := by
  rw [h.len] at hb
  have hk := lacks_any bt D.fv D.gv D.v D.sv (sumL D.ps) D.rem i 0 w h.tb h.room hi (by omega)
  rw [hb] at hk
  have HK := Lib.hid hk
  clear hk hb h
  go_enter Try.func104, Try.ntmps104
  go_wp2_with (go_at_call 107; refine HK.out.mono ?_; unfold codeB; simp only [Bool.false_eq_true, ↓reduceIte]; rintro e w' ⟨rfl, rfl⟩)
  go_ret
  exact ⟨rfl, rfl⟩

theorem insert_full (bt : Nat) (F : Nat → Prop) (D : TD) (a : Option Addr) (len cap : Nat) (i : Int) (w : World) (h : TabOk w F bt D) (hi : -9223372036854775808 ≤ i ∧ i ≤ 9223372036854775807) (hb : hasB D.row.length i 0 = true) (hf : 65536 - (D.row.length : Int) < len) (hl : len ≤ 9223372036854775807) :
    Calls Try.prog 104 #[.pointer (some ⟨bt, 0, none⟩), .int .i64 i, .slice a len cap] w fun e w' => e = .returned (.int .i64 3) ∧ w = w' := by
  rw [h.len] at hb hf
  have hk := lacks_any bt D.fv D.gv D.v D.sv (sumL D.ps) D.rem i 0 w h.tb h.room hi (by omega)
  rw [hb] at hk
  have HK := Lib.hid hk
  have c3 := h.tb.c3
  have hlt := h.tb.lt
  have hro := h.room
  generalize sumL D.ps = S at *
  clear hk hb h
  go_enter Try.func104, Try.ntmps104
  go_wp2_with (go_at_call 107; refine HK.out.mono ?_; unfold codeB; simp only [↓reduceIte]; rintro e w' ⟨rfl, rfl⟩)
  go_ret
  exact ⟨rfl, rfl⟩
end Go.Proofs.Ytndlebopfojjeaa.U
