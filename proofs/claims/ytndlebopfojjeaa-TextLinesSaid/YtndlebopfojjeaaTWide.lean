/-
  Arguments of the laws of layer 4, each row within the reach; Small of such lines.
-/
import Derived.Test.YtndlebopfojjeaaTDeed
import Derived.Test.YtndlebopfojjeaaTSmall
import Derived.SizedLaws
namespace Go.Proofs.Ytndlebopfojjeaa.U
open Go.RowKit Go.ChangeShapes Go.WideShapes Go.Deep
set_option linter.unusedVariables false
set_option linter.unusedSimpArgs false
set_option maxRecDepth 100000

/-- each line is within the reach -/
def WideL (L : List (List Int)) : Prop := ∀ x ∈ L, x.length ≤ 35184372088832
theorem WideL.size {L : List (List Int)} (h : WideL L) (hn : L.length ≤ 300) : sizeN (lens L) ≤ 4611686018427387904 := by
  have h1 : ∀ (M : List (List Int)), (∀ x ∈ M, x.length ≤ 35184372088832) → sizeN (lens M) ≤ M.length * 35184372088833 := by
    intro M hM
    induction M with
    | nil => simp [lens, sizeN_nil]
    | cons a r ih =>
      have h2 := ih (fun x hx => hM x (by simp [hx]))
      have h3 := hM a (by simp)
      simp only [lens, List.map_cons, sizeN_cons, List.length_cons] at h2 ⊢
      rw [Nat.succ_mul]
      omega
  have := h1 L h
  have h4 : L.length * 35184372088833 ≤ 300 * 35184372088833 := Nat.mul_le_mul_right _ hn
  omega
theorem smallL_wide {L : List (List Int)} (h : smallL L = true) : sizeN (lens L) ≤ 262144 := by
  unfold smallL at h
  rw [Bool.and_eq_true, decide_eq_true_eq, decide_eq_true_eq] at h
  by_cases hne : L = []
  · subst hne; simp [lens, sizeN_nil]
  · have := joinL_len hne
    omega

theorem small_wide (F : Nat → Prop) (a : Option Addr) (n c : Nat) (L : List (List Int)) (w : World) (h : RdL F w a n c L) (hw : WideL L) :
    Calls Try.prog 10 #[.slice a n c] w fun e w' => e = .returned (.bool (smallL L)) ∧ w = w' := by
  have hl := h.len
  have hsm := h.small
  by_cases h1 : n ≤ 300
  · have hsz := hw.size (by omega)
    have HR := Lib.hid (rrunes_any F a n c L w h hsz)
    unfold smallL
    rw [hl]
    have hjl := joinL_len_le L
    obtain ⟨R, hR⟩ : ∃ R, (joinL L).length = R := ⟨_, rfl⟩
    rw [hR] at HR hjl ⊢
    clear h hl hR hw
    have t1 : decide ((n : Int) ≤ 300) = true := by simp; omega
    have d1 : decide (n ≤ 300) = true := by simp; omega
    have t1' : (n : Int) ≤ 300 := by omega
    rw [d1, Bool.true_and]
    by_cases h2 : R ≤ 3000
    · have t2 : decide ((R : Int) ≤ 3000) = true := by simp; omega
      have d2 : decide (R ≤ 3000) = true := by simp; omega
      rw [d2]
      clear d1 d2
      go_enter Try.func10, Try.ntmps10
      go_wp2_with (go_at_call 31; refine HR.out.mono ?_; rintro e w' ⟨rfl, rfl⟩)
      go_ret
      exact ⟨by first | rfl | (simp; omega), rfl⟩
    · have t2 : decide ((R : Int) ≤ 3000) = false := by simp; omega
      have d2 : decide (R ≤ 3000) = false := by simp; omega
      rw [d2]
      clear d1 d2
      go_enter Try.func10, Try.ntmps10
      go_wp2_with (go_at_call 31; refine HR.out.mono ?_; rintro e w' ⟨rfl, rfl⟩)
      go_ret
      exact ⟨by first | rfl | (simp; omega), rfl⟩
  · unfold smallL
    rw [hl]
    clear h hl hw
    have t1 : decide ((n : Int) ≤ 300) = false := by simp; omega
    have d1 : decide (n ≤ 300) = false := by simp; omega
    rw [d1, Bool.false_and]
    clear d1
    go_enter Try.func10, Try.ntmps10
    go_wp2_with fail
    go_ret
    exact ⟨by first | rfl | (simp; omega), rfl⟩

/-- a deed whose lines are each within the reach -/
def IsDeedW (w : World) (cs : List Value) : Prop :=
  ∃ (kd n p q r s : Int) (a : Option Addr) (len cap : Nat) (L : List Int) (b : Option Addr) (m c : Nat) (M : List (List Int)), cs = [.int .i64 kd, .int .i64 n, .int .i64 p, .int .i64 q, .int .i64 r, .int .i64 s, .slice a len cap, .slice b m c] ∧
    (i64b kd ∧ i64b n ∧ i64b p ∧ i64b q ∧ i64b r ∧ i64b s) ∧ Rd .i32 w a len cap L ∧ RdL (fun k => k < w.heap.size) w b m c M ∧ WideL M
/-- a row of such deeds -/
def RdDW (w : World) (a : Option Addr) (len cap : Nat) : Prop :=
  len ≤ cap ∧ cap ≤ maxLen ∧ (0 < len → ∃ b off, a = some ⟨b, off, none⟩ ∧ ∀ i, i < len → ∃ cs, IsDeedW w cs ∧ ∀ (j : Nat) (v : Value), cs[j]? = some v → w.cell? ⟨b, off + i * 8 + j, none⟩ = some v)
section
variable {H : Type} {enc : TypeId × Value → H} {w : World} {base : Nat} {held : Bool}
/-- all that is read weighs no more than the reach -/
def Lite (t : TypeId) (d : DataW H) : Prop := ∀ n ∈ d.weights Try.prog t, n ≤ reachBytes
theorem bytesI : Try.prog.bytesOf 21 = 4 := by kernel_rfl
theorem weights_all {e : TypeId} {l : List (DataW H)} {d : DataW H} (h : d ∈ l) : ∀ n ∈ d.weights Try.prog e, n ∈ DataW.weightsAll Try.prog e l := by
  induction l with
  | nil => cases h
  | cons x r ih =>
    intro n hn
    rw [DataW.weightsAll, List.mem_append]
    rcases List.mem_cons.1 h with rfl | h
    · exact .inl hn
    · exact .inr (ih h n hn)
theorem open_LW {m : Nat} {v : Value} {y : DataW H × List MemPlace} (h : DataW.trod enc Try.prog w base (fun _ => true) held m 31 [v] = some y) :
    ∃ a len cap zs, v = .slice a len cap ∧ Rd .i32 w a len cap zs ∧ (Lite 31 y.1 → len ≤ 35184372088832) := by
  rcases open_ints Try.underlying31 Try.underlying21 (by kernel_rfl) h with ⟨hcs, hx⟩ | ⟨x, l, c, zs, hcs, _, hl, hm, hz, hx, hcell, hwz⟩
  · simp at hcs
    exact ⟨none, 0, 0, [], hcs, Rd.none0 _ _, fun _ => by omega⟩
  · simp at hcs
    refine ⟨some x, l, c, zs.take l, hcs, Rd_of_row (.inr ⟨_, rfl, hl, hm, by simpa using hz, hcell, hwz⟩), fun hL => ?_⟩
    rw [hx] at hL
    have h1 := hL (((lits (H := H) .i32 (zs.take l)).length + (lits (H := H) .i32 (zs.drop l)).length) * Try.prog.bytesOf 21) (by simp [DataW.weights, Try.underlying31])
    rw [bytesI] at h1
    have hz' : zs.length = c := by simpa using hz
    simp only [lits, List.length_map, List.length_take, List.length_drop, reachBytes] at h1
    omega
theorem open_linesW {m : Nat} {v : Value} {y : DataW H × List MemPlace} (h : DataW.trod enc Try.prog w base (fun _ => true) held m 22 [v] = some y) :
    ∃ a len cap L, v = .slice a len cap ∧ RdL (fun k => k < w.heap.size) w a len cap L ∧ (Lite 22 y.1 → WideL L) := by
  rcases open_slice1 Try.underlying22 (by kernel_rfl) h with ⟨hcs, hx⟩ | ⟨ad, len, cap, mm, n, V, D, Pl, hcs, _, hl, hm, hmm, hx, hi⟩
  · simp at hcs
    exact ⟨none, 0, 0, [], hcs, RdL.none0 _ _, fun _ x hx => by cases hx⟩
  · simp at hcs
    simp at hmm
    have one : ∀ i, i < len → ∃ x : List Int, (∃ ra rc, V i = .slice ra x.length rc ∧ Rd .i32 w ra x.length rc x) ∧ (Lite 31 (D i) → x.length ≤ 35184372088832) := by
      intro i hlt
      obtain ⟨ra, n', rc, zs, e1, e2, e3⟩ := open_LW (hi i (by omega)).2
      have e4 := e2.1
      subst e4
      exact ⟨zs, ⟨ra, rc, e1, e2⟩, e3⟩
    obtain ⟨X, hX⟩ : ∃ X : Nat → List Int, ∀ i, i < len → (∃ ra rc, V i = .slice ra (X i).length rc ∧ Rd .i32 w ra (X i).length rc (X i)) ∧ (Lite 31 (D i) → (X i).length ≤ 35184372088832) := by
      refine ⟨fun i => if h : i < len then Classical.choose (one i h) else [], fun i h => ?_⟩
      simp only [h, ↓reduceDIte]
      exact Classical.choose_spec (one i h)
    refine ⟨some ad, len, cap, (List.range len).map X, hcs, ⟨(List.range len).map V, ⟨by simp, hl, hm, (fun e => by cases e), fun hp => ?_⟩, ?_, by simp, fun i x hx => ?_⟩, fun hL x hx => ?_⟩
    · obtain ⟨b, off, spot⟩ := ad
      have h0 := (hi 0 (by omega)).1
      have hspot : spot = none := by simpa [Addr.add] using World.cell?_spot h0
      subst hspot
      have he : ∀ j, (⟨b, off, none⟩ : Addr).add j = ⟨b, off + j, none⟩ := by
        intro j
        by_cases h0 : j = 0
        · subst h0; rfl
        · simp [Addr.add]; intro hj; exact absurd hj h0
      rw [he] at h0
      refine ⟨b, off, rfl, block_lt_of_cell h0, fun j u hu => ?_⟩
      have hj := (List.getElem?_eq_some_iff.1 hu).1
      simp only [List.length_map, List.length_range] at hj
      have h1 := (hi j (by omega)).1
      rw [he] at h1
      rw [h1]
      simpa [List.getElem?_map, List.getElem?_range hj] using hu
    · intro hp a0 e
      cases e
      have h0 := (hi 0 (by omega)).1
      obtain ⟨b, off, spot⟩ := ad
      have hspot : spot = none := by simpa [Addr.add] using World.cell?_spot h0
      subst hspot
      have he : (⟨b, off, none⟩ : Addr).add 0 = ⟨b, off, none⟩ := rfl
      rw [he] at h0
      exact block_lt_of_cell h0
    · have hl2 := (List.getElem?_eq_some_iff.1 hx).1
      simp only [List.length_map, List.length_range] at hl2
      have hxe : X i = x := by simpa [List.getElem?_map, List.getElem?_range hl2] using hx
      obtain ⟨⟨ra, rc, e1, e2⟩, _⟩ := hX i hl2
      rw [hxe] at e1 e2
      exact ⟨ra, rc, by simp [List.getElem?_map, List.getElem?_range hl2, e1], e2, e2.inHeap⟩
    · rw [List.mem_map] at hx
      obtain ⟨i, hi2, rfl⟩ := hx
      rw [List.mem_range] at hi2
      refine (hX i hi2).2 (fun n hn => hL n ?_)
      rw [hx]
      have h1 := weights_all (H := H) (e := 31) (l := (List.range len).map D) (d := D i) (List.mem_map.2 ⟨i, by simpa using hi2, rfl⟩) n hn
      simp only [DataW.weights, Try.underlying22, List.mem_cons, List.mem_append]
      exact .inr (.inl h1)
theorem deed_ofW {m : Nat} {cs : List Value} {y : DataW H × List MemPlace} (h : DataW.trod enc Try.prog w base (fun _ => true) held m 33 cs = some y) (hL : Lite 33 y.1) : IsDeedW w cs := by
  have hC : Try.prog.cellsOf 33 = 8 := by kernel_rfl
  obtain ⟨ys, n', _, hy, hcl, hyl, hf⟩ := DataW.trod_struct Try.underlying33 h
  rw [hC] at hcl
  obtain ⟨v0, v1, v2, v3, v4, v5, v6, v7, rfl⟩ := eight hcl
  obtain ⟨y0, y1, y2, y3, y4, y5, rfl⟩ := six (l := ys) hyl
  have g0 : DataW.trod enc Try.prog w base (fun _ => true) held n' 3 [v0] = some y0 := hf 0 _ rfl
  have g1 : DataW.trod enc Try.prog w base (fun _ => true) held n' 3 [v1] = some y1 := hf 1 _ rfl
  have g2 : DataW.trod enc Try.prog w base (fun _ => true) held n' 30 [v2, v3] = some y2 := hf 2 _ rfl
  have g3 : DataW.trod enc Try.prog w base (fun _ => true) held n' 30 [v4, v5] = some y3 := hf 3 _ rfl
  have g4 : DataW.trod enc Try.prog w base (fun _ => true) held n' 31 [v6] = some y4 := hf 4 _ rfl
  have g5 : DataW.trod enc Try.prog w base (fun _ => true) held n' 22 [v7] = some y5 := hf 5 _ rfl
  obtain ⟨kd, e0, _, w0⟩ := DataW.trod_int Try.underlying3 g0
  obtain ⟨n, e1, _, w1⟩ := DataW.trod_int Try.underlying3 g1
  obtain ⟨p, q, rfl, rfl, i2, i3⟩ := pos_of g2
  obtain ⟨r, s, rfl, rfl, i4, i5⟩ := pos_of g3
  obtain ⟨a, len, cap, L, rfl, hLr, _⟩ := open_LW g4
  obtain ⟨b, mm, c, M, rfl, hM, hs⟩ := open_linesW g5
  simp at e0 e1
  subst e0 e1
  refine ⟨kd, n, p, q, r, s, a, len, cap, L, b, mm, c, M, rfl, ⟨wf_i64b w0, wf_i64b w1, i2, i3, i4, i5⟩, hLr, hM, hs (fun x hx => hL x ?_)⟩
  rw [hy]
  simp only [DataW.weights, Try.underlying33]
  exact DataW.weights_mem_each (j := 5) (t := 22) (d := y5.1) rfl rfl x hx
theorem open_deedsW {m : Nat} {v : Value} {y : DataW H × List MemPlace} (h : DataW.trod enc Try.prog w base (fun _ => true) held m 23 [v] = some y) (hL : Lite 23 y.1) :
    ∃ a len cap, v = .slice a len cap ∧ RdDW w a len cap := by
  have hC : Try.prog.cellsOf 33 = 8 := by kernel_rfl
  rcases open_slice Try.underlying23 h with ⟨hcs, hx⟩ | ⟨ad, len, cap, mm, n, D, Pl, hcs, _, hl, hm, hmm, hx, hi⟩
  · simp at hcs
    exact ⟨none, 0, 0, hcs, Nat.le_refl _, by simp, fun h => by omega⟩
  · simp at hcs
    simp at hmm
    refine ⟨some ad, len, cap, hcs, hl, hm, fun hp => ?_⟩
    have one : ∀ i, i < len → ∃ cs : List Value, IsDeedW w cs ∧ cs.length = 8 ∧ ∀ (j : Nat) (u : Value), cs[j]? = some u → w.cell? (ad.add (i * 8 + j)) = some u := by
      intro i hlt
      obtain ⟨cs, hc, ht⟩ := hi i (by omega)
      rw [hC] at hc
      obtain ⟨_, hcl, hat⟩ := World.cells?_some hc
      have hd := deed_ofW ht (fun x hxx => hL x (by
        rw [hx]
        have h1 := weights_all (H := H) (e := 33) (l := (List.range len).map D) (d := D i) (List.mem_map.2 ⟨i, by simpa using hlt, rfl⟩) x hxx
        simp only [DataW.weights, Try.underlying23, List.mem_cons, List.mem_append]
        exact .inr (.inl h1)))
      refine ⟨cs, hd, hcl, fun j u hu => ?_⟩
      have hj : j < 8 := by have := (List.getElem?_eq_some_iff.1 hu).1; omega
      have h9 := hat j hj
      rw [Go.Deep.add_add] at h9
      rw [h9]
      exact hu
    obtain ⟨b, off, spot⟩ := ad
    obtain ⟨cs0, _, hl0, h0⟩ := one 0 hp
    have h00 := h0 0 cs0[0] (List.getElem?_eq_getElem (by omega))
    have hspot : spot = none := by simpa [Addr.add] using World.cell?_spot h00
    subst hspot
    have he : ∀ j, (⟨b, off, none⟩ : Addr).add j = ⟨b, off + j, none⟩ := by
      intro j
      by_cases h0 : j = 0
      · subst h0; rfl
      · simp [Addr.add]; intro hj; exact absurd hj h0
    refine ⟨b, off, rfl, fun i hlt => ?_⟩
    obtain ⟨cs, d, _, hc⟩ := one i hlt
    refine ⟨cs, d, fun j u hu => ?_⟩
    have := hc j u hu
    rw [he] at this
    rw [Nat.add_assoc]
    exact this
/-- lines, as an argument -/
theorem open_lines_argW {r : Reach} {b0 : Nat} {v : Value} {d : DataW H} {p : List MemPlace} (hv : Value.okWide Try.prog w r b0 22 v) (h : DataW.Trod enc Try.prog w base (fun _ => true) held 22 v d p) (hL : Lite 22 d) :
    ∃ a len cap L, v = .slice a len cap ∧ RdL (fun k => k < w.heap.size) w a len cap L ∧ WideL L := by
  obtain ⟨a, len, cap, rfl⟩ := okWide_slice Try.underlying22 hv
  obtain ⟨fuel, hf⟩ := h
  obtain ⟨a', l', c', L, h1, h2, h3⟩ := open_linesW (y := (d, p)) (by simpa [Value.cells] using hf)
  exact ⟨a', l', c', L, h1, h2, h3 hL⟩
/-- what a row's reading weighs, argument by argument -/
theorem lite_of {ts : List TypeId} {ds : List (DataW H)} (h : (DataW.weightsEach Try.prog ts ds).all (· ≤ reachBytes) = true) {j : Nat} {t : TypeId} {d : DataW H} (ht : ts[j]? = some t) (hd : ds[j]? = some d) : Lite t d := fun n hn => by
  have := List.all_eq_true.1 h n (DataW.weights_mem_each ht hd n hn)
  simpa using this
end
/-- the i-th deed, read in a later world -/
theorem RdDW.get {w W : World} {a : Option Addr} {len cap i B : Nat} (h : RdDW w a len cap) (hB : w.heap.size = B) (hb : Below B w W) (hi : i < len) :
    ∃ b off, a = some ⟨b, off, none⟩ ∧ b < B ∧ ∃ (k n p q r s : Int) (al : Option Addr) (ll cl : Nat) (L : List Int) (ma : Option Addr) (mn mc : Nat) (M : List (List Int)), i64b n ∧ i64b p ∧ i64b q ∧ i64b r ∧ i64b s ∧ (∀ W', Below B w W' → Rd .i32 W' al ll cl L) ∧ (∀ W', Below B w W' → RdL (fun x => x < B) W' ma mn mc M) ∧ WideL M ∧
      W.cell? ⟨b, off + i * 8, none⟩ = some (.int .i64 k) ∧ W.cell? ⟨b, off + i * 8 + 1, none⟩ = some (.int .i64 n) ∧ W.cell? ⟨b, off + i * 8 + 2, none⟩ = some (.int .i64 p) ∧ W.cell? ⟨b, off + i * 8 + 3, none⟩ = some (.int .i64 q) ∧ W.cell? ⟨b, off + i * 8 + 4, none⟩ = some (.int .i64 r) ∧ W.cell? ⟨b, off + i * 8 + 5, none⟩ = some (.int .i64 s) ∧ W.cell? ⟨b, off + i * 8 + 6, none⟩ = some (.slice al ll cl) ∧ W.cell? ⟨b, off + i * 8 + 7, none⟩ = some (.slice ma mn mc) := by
  subst hB
  obtain ⟨b, off, rfl, hc⟩ := h.2.2 (by omega)
  obtain ⟨cs, ⟨k, n, p, q, r, s, al, ll, cl, L, ma, mn, mc, M, rfl, ⟨k1, k2, k3, k4, k5, k6⟩, k7, k8, k9⟩, c⟩ := hc i hi
  have c0 := c 0 _ rfl
  rw [Nat.add_zero] at c0
  have hl := block_lt_of_cell c0
  exact ⟨b, off, rfl, hl, k, n, p, q, r, s, al, ll, cl, L, ma, mn, mc, M, k2, k3, k4, k5, k6, fun W' hW' => k7.below hW', fun W' hW' => k8.below hW', k9, (hb.cell (p := ⟨b, off + i * 8, none⟩) hl).trans c0, (hb.cell (p := ⟨b, off + i * 8 + 1, none⟩) hl).trans (c 1 _ rfl), (hb.cell (p := ⟨b, off + i * 8 + 2, none⟩) hl).trans (c 2 _ rfl), (hb.cell (p := ⟨b, off + i * 8 + 3, none⟩) hl).trans (c 3 _ rfl), (hb.cell (p := ⟨b, off + i * 8 + 4, none⟩) hl).trans (c 4 _ rfl), (hb.cell (p := ⟨b, off + i * 8 + 5, none⟩) hl).trans (c 5 _ rfl), (hb.cell (p := ⟨b, off + i * 8 + 6, none⟩) hl).trans (c 6 _ rfl), (hb.cell (p := ⟨b, off + i * 8 + 7, none⟩) hl).trans (c 7 _ rfl)⟩
end Go.Proofs.Ytndlebopfojjeaa.U
