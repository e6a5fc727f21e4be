/-
  The document's Join of lines that are there.
-/
import Derived.Test.YtfldjoiohejilaaJJoin
namespace Go.Proofs.Ytfldjoiohejilaa.U
open Go.RowKit
set_option linter.unusedVariables false
set_option linter.unusedSimpArgs false
set_option maxRecDepth 100000

def slen : Value → Nat
  | .slice _ n _ => n
  | _ => 0
theorem ln_wf {F : Nat → Prop} {w : World} {a : Option Addr} {n c : Nat} {L : List (List Int)} (h : RdL F w a n c L) (i : Nat) : ∀ y ∈ lnL L i, (Lit.int .i32 y).wf = true := by
  intro y hy
  unfold lnL at hy
  rw [List.getD_eq_getElem?_getD] at hy
  cases e : L[i]? with
  | none => rw [e] at hy; simp at hy
  | some x => rw [e] at hy; exact lines_wf (rdl_wf h) x (List.mem_of_getElem? e) y hy
theorem joinA_wf {F : Nat → Prop} {w : World} {a : Option Addr} {n c : Nat} {L : List (List Int)} (h : RdL F w a n c L) (at_ : Nat) : ∀ j, ∀ y ∈ joinA L at_ j, (Lit.int .i32 y).wf = true
  | 0 => ln_wf h at_
  | j + 1 => by
    intro y hy
    have hy : y ∈ joinX (joinA L at_ j) (lnL L (at_ + j + 1)) := hy
    unfold joinX at hy
    rcases List.mem_append.1 hy with hy | hy
    · rcases List.mem_append.1 hy with hy | hy
      · exact joinA_wf h at_ j y hy
      · split at hy
        · rw [List.mem_singleton] at hy; subst hy; decide
        · cases hy
    · exact ln_wf h _ y (by unfold joinY at hy; exact (List.dropWhile_sublist _).subset hy)
theorem jx_nil {X x : List Int} (h : joinY x = []) : joinX X x = X := by unfold joinX; rw [h]; simp
theorem jx_no {X x : List Int} {z : Int} {ys : List Int} (h : joinY x = z :: ys) (hc : z = 41 ∨ X = [] ∨ blankR (X.getD (X.length - 1) 0) = true) : joinX X x = X ++ z :: ys := by
  unfold joinX
  rw [h, if_neg, List.append_nil]
  rintro ⟨_, h2, h3, h4⟩
  rcases hc with hc | hc | hc
  · exact h2 (by simpa using hc)
  · exact h3 hc
  · rw [hc] at h4; cases h4
theorem jx_yes {X x : List Int} {z : Int} {ys : List Int} (h : joinY x = z :: ys) (h1 : z ≠ 41) (h2 : X ≠ []) (h3 : blankR (X.getD (X.length - 1) 0) = false) : joinX X x = X ++ [32] ++ z :: ys := by
  unfold joinX
  rw [h, if_pos ⟨by simp, by simpa using h1, h2, h3⟩]
/-- a row of one's own, and where it lies -/
structure JoS (wb W : World) (X : List Int) (xa : Option Addr) (m xc : Nat) : Prop where
  own : W.ownsRow wb.heap.size 21 1 (.slice xa m xc) m (ints X)
  hb : Below wb.heap.size wb W
theorem JoS.len {wb W : World} {X : List Int} {xa : Option Addr} {m xc : Nat} (h : JoS wb W X xa m xc) : X.length = m := by
  have := h.own.1
  unfold ints at this
  rw [List.length_map] at this
  omega
theorem JoS.step {wb W : World} {X : List Int} {xa : Option Addr} {m xc : Nat} (h : JoS wb W X xa m xc) {ya : Option Addr} {yn yc : Nat} {ys : List Int} (hr : Rd .i32 W ya yn yc ys) (hn : m + yn ≤ 17592186044416) :
    ∃ a' c' w', (∀ ty, (Builtin.append_ #[35, 35] ty #[.slice xa m xc, .slice ya yn yc]).run Try.prog W = .ok (.slice a' (m + yn) c') w') ∧ JoS wb w' (X ++ ys) a' (m + yn) c' := by
  obtain ⟨a', c', w', h1, h2, h3⟩ := app_rd W wb.heap.size _ m X ya yn yc ys h.own h.hb.size hr hn
  exact ⟨a', c', w', h1, h2, h.hb.trans h3⟩
theorem app_one2 (w : World) (B : Nat) (v : Value) (n : Nat) (xs : List Int) (z : Int) (h : w.ownsRow B 21 1 v n (ints xs)) (hB : B ≤ w.heap.size) (hz : (Lit.int .i32 z).wf = true) (hn : n ≤ 8796093022208) :
    ∃ a' c' w', (∀ ty, (Builtin.append_ #[35, 35] ty #[v, .slice (some ⟨w.heap.size, 0, none⟩) 1 1]).run Try.prog (w.alloc (.cells #[.int .i32 z] 21)) = .ok (.slice a' (n + 1) c') w') ∧ w'.ownsRow B 21 1 (.slice a' (n + 1) c') (n + 1) (ints (xs ++ [z])) ∧ Below B w w' := by
  have hba : Below B w (w.alloc (.cells #[.int .i32 z] 21)) := (Below.refl _ w).alloc hB _
  have hr := Rd_new .i32 w [z] #[.int .i32 z] 21 1 rfl rfl (by unfold maxLen; omega) (by simpa using hz)
  obtain ⟨a', c', w', hrun, ho, hb⟩ := app_rd (w.alloc (.cells #[.int .i32 z] 21)) B v n xs (some ⟨w.heap.size, 0, none⟩) 1 1 [z] (h.alloc _) (by simp; omega) hr (by omega)
  exact ⟨a', c', w', hrun, ho, hba.trans hb⟩
theorem JoS.blank {wb W : World} {X : List Int} {xa : Option Addr} {m xc : Nat} (h : JoS wb W X xa m xc) {w0 : World} {ya : Option Addr} {yn yc : Nat} {ys : List Int} (hr : Rd .i32 wb ya yn yc ys) (hn : m + 1 + yn ≤ 8796093022208) :
    ∃ a1 c1 w1 a' c' w', (∀ ty, (Builtin.append_ #[35, 35] ty #[.slice xa m xc, .slice (some ⟨W.heap.size, 0, none⟩) 1 1]).run Try.prog (W.alloc (.cells #[.int .i32 32] 21)) = .ok (.slice a1 (m + 1) c1) w1) ∧
      (∀ ty, (Builtin.append_ #[35, 35] ty #[.slice a1 (m + 1) c1, .slice ya yn yc]).run Try.prog w1 = .ok (.slice a' (m + 1 + yn) c') w') ∧ JoS wb w' (X ++ [32] ++ ys) a' (m + 1 + yn) c' := by
  obtain ⟨a1, c1, w1, h1, h2, h3⟩ := app_one2 W wb.heap.size _ m X 32 h.own h.hb.size (by decide) (by omega)
  have hb1 := h.hb.trans h3
  obtain ⟨a', c', w', h4, h5, h6⟩ := app_rd w1 wb.heap.size _ (m + 1) _ ya yn yc ys h2 hb1.size (hr.below hb1) (by omega)
  exact ⟨a1, c1, w1, a', c', w', h1, h4, h5, hb1.trans h6⟩
/-- behind the loop: the lines that are gathered -/
structure JoE (w : World) (b : Nat) (ra : Option Addr) (m rc : Nat) (O : List (List Int)) (W : World) : Prop where
  z : W.heap[b]? = some (.cells #[.int .i64 0, .int .i64 0] 24 (0, 0))
  out : MyL (b + 1) W ra m rc O
  hb : Below b w W
  l : b + 1 ≤ W.heap.size
theorem JoE.kept {w : World} {b : Nat} {ra ra' : Option Addr} {m rc m' rc' : Nat} {O O' : List (List Int)} {W W' : World} (h : JoE w b ra m rc O W) (hb : Below (b + 1) W W') (ho : MyL (b + 1) W' ra' m' rc' O') : JoE w b ra' m' rc' O' W' := by
  have := h.l
  have := hb.size
  exact ⟨(hb.block _ (by omega)).trans h.z, ho, h.hb.trans (hb.mono (by omega)), by omega⟩
theorem JoE.below {w : World} {b : Nat} {ra : Option Addr} {m rc : Nat} {O : List (List Int)} {W W' : World} (h : JoE w b ra m rc O W) (hb : Below W.heap.size W W') : JoE w b ra m rc O W' := h.kept (hb.mono h.l) (h.out.below hb)
theorem JoE.put {w : World} {b : Nat} {ra : Option Addr} {m rc : Nat} {O : List (List Int)} {W : World} (h : JoE w b ra m rc O W) {xa : Option Addr} {xm xc : Nat} {X : List Int} (ho : W.ownsRow (b + 1) 21 1 (.slice xa xm xc) xm (ints X)) (hm : m ≤ 549755813888) :
    ∃ a3 c3 w6, (∀ ty, (Builtin.append_ #[22, 22] ty #[.slice ra m rc, .slice (some ⟨W.heap.size, 0, none⟩) 1 1]).run Try.prog (W.alloc (.cells #[.slice xa xm xc] 35)) = .ok (.slice a3 (m + 1) c3) w6) ∧ JoE w b a3 (m + 1) c3 (O ++ [X]) w6 := by
  have hN : X.length = xm := by have := ho.1; unfold ints at this; rw [List.length_map] at this; omega
  have hal : Below W.heap.size W (W.alloc (.cells #[.slice xa xm xc] 35)) := (Below.refl _ _).alloc (Nat.le_refl _) _
  obtain ⟨a3, c3, w6, hrun, h1, h2, _⟩ := myd_app (W.alloc (.cells #[.slice xa xm xc] 35)) (b + 1) none ra m rc _ (some ⟨W.heap.size, 0, none⟩) 1 1 [X] (h.out.below hal).myd (myd_one h.l (by rw [hN]; exact ho) (fun g _ e => by cases e)) (by have := hal.size; have := h.l; omega) (by omega)
  exact ⟨a3, c3, w6, hrun, h.kept ((hal.mono h.l).trans h2) h1.my⟩
theorem JoE.rest {w : World} {b : Nat} {ra : Option Addr} {m rc : Nat} {O : List (List Int)} {W : World} (h : JoE w b ra m rc O W) (F : Nat → Prop) {da : Option Addr} {dn dc : Nat} {M : List (List Int)} (hr : RdL F W da dn dc M) (hs : sizeN (lens M) ≤ 1048576) (hm : m ≤ 549755813888) :
    Calls Try.prog 12 #[.slice da dn dc] W fun e w' => ∃ ta tc, e = .returned (.slice ta dn tc) ∧ ∃ a' c' W', Hid (∀ ty, (Builtin.append_ #[22, 22] ty #[.slice ra m rc, .slice ta dn tc]).run Try.prog w' = .ok (.slice a' (m + dn) c') W') ∧ JoE w b a' (m + dn) c' (O ++ M) W' := by
  refine (rtwin_any F da dn dc M W hr hs).mono ?_
  rintro e w' ⟨ta, tc, rfl, hf, hb⟩
  have hdn : dn ≤ 1048576 := by have := hr.len; have := size_count M; omega
  have hs2 := hb.size
  obtain ⟨a', c', W', hrun, h1, h2⟩ := my_app w' (b + 1) ra m rc O ta dn tc M (h.out.below hb) (hf.my h.l) (by have := h.l; omega) (by omega)
  exact ⟨ta, tc, rfl, a', c', W', hrun, (h.below hb).kept h2 h1⟩
/-- the cells of the place that is told -/
structure JoZ (b : Nat) (W : World) : Prop where
  z0 : W.cell? ⟨b, 0, none⟩ = some (.int .i64 0)
  z1 : W.cell? ⟨b, 1, none⟩ = some (.int .i64 0)
  y0 : W.frozen? ⟨b, 0, none⟩ = false
  y1 : W.frozen? ⟨b, 1, none⟩ = false
  l1 : b < W.heap.size
theorem JoE.cells {w : World} {b : Nat} {ra : Option Addr} {m rc : Nat} {O : List (List Int)} {W : World} (h : JoE w b ra m rc O W) : JoZ b W := ⟨cell_row h.z 0, cell_row h.z 1, frozen_row h.z 0, frozen_row h.z 1, heap_lt h.z⟩
theorem JoE.clip {w : World} {b : Nat} {ra : Option Addr} {m rc : Nat} {O : List (List Int)} {W : World} (h : JoE w b ra m rc O W) (hw : ∀ x ∈ O, ∀ y ∈ x, (Lit.int .i32 y).wf = true) (x y : Nat) (hx : x ≤ 1048576) (hy : y ≤ 8796093022208) :
    Calls Try.prog 32 #[.slice ra m rc, .agg #[.int .i64 (x : Nat), .int .i64 (y : Nat)]] W fun e w' => e = .returned (.agg #[.int .i64 ((clipP O (x : Int) (y : Int)).1 : Nat), .int .i64 ((clipP O (x : Int) (y : Int)).2 : Nat)]) ∧ JoZ b w' ∧ Hid (JoE w b ra m rc O w') := by
  refine (rclip_any _ ra m rc O ⟨(x : Int), (y : Int)⟩ W (h.out.rdl hw) ⟨⟨by show _ ≤ (x : Int); omega, by show (x : Int) ≤ _; omega⟩, ⟨by show _ ≤ (y : Int); omega, by show (y : Int) ≤ _; omega⟩⟩).mono ?_
  rintro e w' ⟨rfl, hb⟩
  exact ⟨rfl, (h.below hb).cells, h.below hb⟩
theorem JoE.fin {w : World} {b : Nat} {ra : Option Addr} {m rc : Nat} {O : List (List Int)} {W : World} (h : JoE w b ra m rc O W) (hw : ∀ x ∈ O, ∀ y ∈ x, (Lit.int .i32 y).wf = true) (Q : Pl) (u v : Value) :
    ∃ ra' rc', Ending.returned (.tuple #[.slice ra m rc, plV Q, .int .i64 0]) = Ending.returned (.tuple #[.slice ra' O.length rc', plV Q, .int .i64 0]) ∧ RdL (fun x => b ≤ x) ((W.setCell ⟨b, 0, none⟩ u).setCell ⟨b, 1, none⟩ v) ra' O.length rc' O ∧ Below b w ((W.setCell ⟨b, 0, none⟩ u).setCell ⟨b, 1, none⟩ v) := by
  have hl := h.out.len
  subst hl
  have hfr : Fr (fun k => k = b) W ((W.setCell ⟨b, 0, none⟩ u).setCell ⟨b, 1, none⟩ v) := ((Fr.refl (fun k => k = b) W).setCell ⟨b, 0, none⟩ _ (fun _ => rfl)).setCell ⟨b, 1, none⟩ _ (fun _ => rfl)
  exact ⟨ra, rc, rfl, ((h.out.rdl hw).frF hfr (fun k h1 h2 => by omega)).mono (fun k hk => by omega), setCell_below (setCell_below h.hb _ _ _ (by omega)) _ _ _ (by omega)⟩
end Go.Proofs.Ytfldjoiohejilaa.U
