/-
  Arguments of the laws of layer 5, each row within the reach: a change, rows of deeds and of swaps.
-/
import Derived.Test.YtalhiedbhcklgaaVNoneW
import Derived.SizedLaws
namespace Go.Proofs.Ytalhiedbhcklgaa.U
open Go.RowKit Go.ChangeShapes Go.WideShapes Go.Deep
set_option linter.unusedVariables false
set_option linter.unusedSimpArgs false
set_option maxRecDepth 100000

theorem wf_i64b {i : Int} (h : (Lit.int .i64 i).wf = true) : i64b i := wf_i64_in h
/-- a change that was handed in -/
def IsCh (w : World) (u : Tri) (c : Ch) : Prop := ChAt (fun k => k < w.heap.size) w u c ∧ i64b c.pos ∧ WideL c.old ∧ WideL c.now
theorem IsCh.below {w w' : World} {u : Tri} {c : Ch} (h : IsCh w u c) (hb : Below w.heap.size w w') : IsCh w' u c := ⟨(h.1.below hb).mono (fun k hk => by have := hb.size; omega), h.2⟩
/-- a deed, in five cells -/
def IsDd (w : World) (cs : List Value) : Prop := ∃ (kd n : Int) (u : Tri) (c : Ch), cs = [.int .i64 kd, .int .i64 n, u.1, u.2.1, u.2.2] ∧ i64b kd ∧ i64b n ∧ IsCh w u c
/-- a swap, in four cells -/
def IsSw (w : World) (cs : List Value) : Prop := ∃ (p q : Int) (a : Option Addr) (n c : Nat) (L : List (List Int)) (e : Bool), cs = [.int .i64 p, .int .i64 q, .slice a n c, .bool e] ∧ i64b p ∧ i64b q ∧ RdL (fun k => k < w.heap.size) w a n c L ∧ WideL L
/-- a row of things of s cells -/
def RdSt (s : Nat) (R : World → List Value → Prop) (w : World) (a : Option Addr) (len cap : Nat) : Prop :=
  len ≤ cap ∧ cap ≤ maxLen ∧ (0 < len → ∃ b off, a = some ⟨b, off, none⟩ ∧ ∀ i, i < len → ∃ cs, R w cs ∧ ∀ (j : Nat) (v : Value), cs[j]? = some v → w.cell? ⟨b, off + i * s + j, none⟩ = some v)
theorem four {α : Type} {l : List α} (h : l.length = 4) : ∃ a b c d, l = [a, b, c, d] := by
  match l, h with
  | [a, b, c, d], _ => exact ⟨a, b, c, d, rfl⟩
section
variable {H : Type} {enc : TypeId × Value → H} {w : World} {base : Nat} {held : Bool}
theorem change_ofW {m : Nat} {cs : List Value} {y : DataW H × List MemPlace} (h : DataW.trod enc Try.prog w base (fun _ => true) held m 24 cs = some y) (hL : Lite 24 y.1) : ∃ u c, cs = triL u ∧ IsCh w u c := by
  have hC : Try.prog.cellsOf 24 = 3 := by kernel_rfl
  obtain ⟨ys, n', _, hy, hcl, hyl, hf⟩ := DataW.trod_struct Try.underlying24 h
  rw [hC] at hcl
  obtain ⟨v0, v1, v2, rfl⟩ := three hcl
  obtain ⟨y0, y1, y2, rfl⟩ := three (l := ys) hyl
  have g0 : DataW.trod enc Try.prog w base (fun _ => true) held n' 3 [v0] = some y0 := hf 0 _ rfl
  have g1 : DataW.trod enc Try.prog w base (fun _ => true) held n' 22 [v1] = some y1 := hf 1 _ rfl
  have g2 : DataW.trod enc Try.prog w base (fun _ => true) held n' 22 [v2] = some y2 := hf 2 _ rfl
  obtain ⟨p, e0, _, w0⟩ := DataW.trod_int Try.underlying3 g0
  obtain ⟨a, n, c, L, rfl, hLr, s1⟩ := open_linesW g1
  obtain ⟨b, mm, d, M, rfl, hM, s2⟩ := open_linesW g2
  simp at e0
  subst e0
  rw [hy] at hL
  have l1 : Lite 22 y1.1 := fun x hx => hL x (by
    simp only [DataW.weights, Try.underlying24]
    exact DataW.weights_mem_each (j := 1) (t := 22) (d := y1.1) rfl rfl x hx)
  have l2 : Lite 22 y2.1 := fun x hx => hL x (by
    simp only [DataW.weights, Try.underlying24]
    exact DataW.weights_mem_each (j := 2) (t := 22) (d := y2.1) rfl rfl x hx)
  have en := hLr.len
  have em := hM.len
  subst en em
  exact ⟨(.int .i64 p, .slice a L.length c, .slice b M.length d), ⟨p, L, M⟩, rfl, ⟨a, c, b, d, rfl, hLr, hM⟩, wf_i64b w0, s1 l1, s2 l2⟩
theorem deed5_ofW {m : Nat} {cs : List Value} {y : DataW H × List MemPlace} (h : DataW.trod enc Try.prog w base (fun _ => true) held m 45 cs = some y) (hL : Lite 45 y.1) : IsDd w cs := by
  have hC : Try.prog.cellsOf 45 = 5 := by kernel_rfl
  obtain ⟨ys, n', _, hy, hcl, hyl, hf⟩ := DataW.trod_struct Try.underlying45 h
  rw [hC] at hcl
  obtain ⟨v0, v1, v2, v3, v4, rfl⟩ := five hcl
  obtain ⟨y0, y1, y2, rfl⟩ := three (l := ys) hyl
  have g0 : DataW.trod enc Try.prog w base (fun _ => true) held n' 3 [v0] = some y0 := hf 0 _ rfl
  have g1 : DataW.trod enc Try.prog w base (fun _ => true) held n' 3 [v1] = some y1 := hf 1 _ rfl
  have g2 : DataW.trod enc Try.prog w base (fun _ => true) held n' 24 [v2, v3, v4] = some y2 := hf 2 _ rfl
  obtain ⟨k, e0, _, w0⟩ := DataW.trod_int Try.underlying3 g0
  obtain ⟨n, e1, _, w1⟩ := DataW.trod_int Try.underlying3 g1
  simp at e0 e1
  subst e0 e1
  rw [hy] at hL
  have l2 : Lite 24 y2.1 := fun x hx => hL x (by
    simp only [DataW.weights, Try.underlying45]
    exact DataW.weights_mem_each (j := 2) (t := 24) (d := y2.1) rfl rfl x hx)
  obtain ⟨u, c, hu, hc⟩ := change_ofW g2 l2
  simp [triL] at hu
  obtain ⟨rfl, rfl, rfl⟩ := hu
  exact ⟨k, n, u, c, rfl, wf_i64b w0, wf_i64b w1, hc⟩
theorem swap_ofW {m : Nat} {cs : List Value} {y : DataW H × List MemPlace} (h : DataW.trod enc Try.prog w base (fun _ => true) held m 57 cs = some y) (hL : Lite 57 y.1) : IsSw w cs := by
  have hC : Try.prog.cellsOf 57 = 4 := by kernel_rfl
  obtain ⟨ys, n', _, hy, hcl, hyl, hf⟩ := DataW.trod_struct Try.underlying57 h
  rw [hC] at hcl
  obtain ⟨v0, v1, v2, v3, rfl⟩ := four hcl
  obtain ⟨y0, y1, y2, y3, rfl⟩ := four (l := ys) hyl
  have g0 : DataW.trod enc Try.prog w base (fun _ => true) held n' 3 [v0] = some y0 := hf 0 _ rfl
  have g1 : DataW.trod enc Try.prog w base (fun _ => true) held n' 3 [v1] = some y1 := hf 1 _ rfl
  have g2 : DataW.trod enc Try.prog w base (fun _ => true) held n' 22 [v2] = some y2 := hf 2 _ rfl
  have g3 : DataW.trod enc Try.prog w base (fun _ => true) held n' 4 [v3] = some y3 := hf 3 _ rfl
  obtain ⟨p, e0, _, w0⟩ := DataW.trod_int Try.underlying3 g0
  obtain ⟨q, e1, _, w1⟩ := DataW.trod_int Try.underlying3 g1
  obtain ⟨a, n, c, L, rfl, hLr, s2⟩ := open_linesW g2
  obtain ⟨e, e3, _⟩ := DataW.trod_bool Try.underlying4 g3
  simp at e0 e1 e3
  subst e0 e1 e3
  rw [hy] at hL
  have l2 : Lite 22 y2.1 := fun x hx => hL x (by
    simp only [DataW.weights, Try.underlying57]
    exact DataW.weights_mem_each (j := 2) (t := 22) (d := y2.1) rfl rfl x hx)
  exact ⟨p, q, a, n, c, L, e, rfl, wf_i64b w0, wf_i64b w1, hLr, s2 l2⟩
theorem open_deedsW {m : Nat} {v : Value} {y : DataW H × List MemPlace} (h : DataW.trod enc Try.prog w base (fun _ => true) held m 36 [v] = some y) (hL : Lite 36 y.1) :
    ∃ a len cap, v = .slice a len cap ∧ RdSt 5 IsDd w a len cap := by
  have hC : Try.prog.cellsOf 45 = 5 := by kernel_rfl
  rcases open_slice Try.underlying36 h with ⟨hcs, hx⟩ | ⟨ad, len, cap, mm, n, D, Pl, hcs, _, hl, hm, hmm, hx, hi⟩
  · simp at hcs
    exact ⟨none, 0, 0, hcs, Nat.le_refl _, by simp, fun h => by omega⟩
  · simp at hcs
    simp at hmm
    refine ⟨some ad, len, cap, hcs, hl, hm, fun hp => ?_⟩
    have one : ∀ i, i < len → ∃ cs : List Value, IsDd w cs ∧ cs.length = 5 ∧ ∀ (j : Nat) (u : Value), cs[j]? = some u → w.cell? (ad.add (i * 5 + j)) = some u := by
      intro i hlt
      obtain ⟨cs, hc, ht⟩ := hi i (by omega)
      rw [hC] at hc
      obtain ⟨_, hcl, hat⟩ := World.cells?_some hc
      have hd := deed5_ofW ht (fun x hxx => hL x (by
        rw [hx]
        have h1 := weights_all (H := H) (e := 45) (l := (List.range len).map D) (d := D i) (List.mem_map.2 ⟨i, by simpa using hlt, rfl⟩) x hxx
        simp only [DataW.weights, Try.underlying36, List.mem_cons, List.mem_append]
        exact .inr (.inl h1)))
      refine ⟨cs, hd, hcl, fun j u hu => ?_⟩
      have hj : j < 5 := by have := (List.getElem?_eq_some_iff.1 hu).1; omega
      have h9 := hat j hj
      rw [Go.Deep.add_add] at h9
      rw [h9]
      exact hu
    obtain ⟨b, off, spot⟩ := ad
    obtain ⟨cs0, _, hl0, h0⟩ := one 0 hp
    have h00 := h0 0 cs0[0] (List.getElem?_eq_getElem (by omega))
    have hspot : spot = none := by simpa [Addr.add] using World.cell?_spot h00
    subst hspot
    have he : ∀ j, (⟨b, off, none⟩ : Addr).add j = ⟨b, off + j, none⟩ := by
      intro j
      by_cases h0 : j = 0
      · subst h0; rfl
      · simp [Addr.add]; intro hj; exact absurd hj h0
    refine ⟨b, off, rfl, fun i hlt => ?_⟩
    obtain ⟨cs, d, _, hc⟩ := one i hlt
    refine ⟨cs, d, fun j u hu => ?_⟩
    have := hc j u hu
    rw [he] at this
    rw [Nat.add_assoc]
    exact this
theorem open_swapsW {m : Nat} {v : Value} {y : DataW H × List MemPlace} (h : DataW.trod enc Try.prog w base (fun _ => true) held m 54 [v] = some y) (hL : Lite 54 y.1) :
    ∃ a len cap, v = .slice a len cap ∧ RdSt 4 IsSw w a len cap := by
  have hC : Try.prog.cellsOf 57 = 4 := by kernel_rfl
  rcases open_slice Try.underlying54 h with ⟨hcs, hx⟩ | ⟨ad, len, cap, mm, n, D, Pl, hcs, _, hl, hm, hmm, hx, hi⟩
  · simp at hcs
    exact ⟨none, 0, 0, hcs, Nat.le_refl _, by simp, fun h => by omega⟩
  · simp at hcs
    simp at hmm
    refine ⟨some ad, len, cap, hcs, hl, hm, fun hp => ?_⟩
    have one : ∀ i, i < len → ∃ cs : List Value, IsSw w cs ∧ cs.length = 4 ∧ ∀ (j : Nat) (u : Value), cs[j]? = some u → w.cell? (ad.add (i * 4 + j)) = some u := by
      intro i hlt
      obtain ⟨cs, hc, ht⟩ := hi i (by omega)
      rw [hC] at hc
      obtain ⟨_, hcl, hat⟩ := World.cells?_some hc
      have hd := swap_ofW ht (fun x hxx => hL x (by
        rw [hx]
        have h1 := weights_all (H := H) (e := 57) (l := (List.range len).map D) (d := D i) (List.mem_map.2 ⟨i, by simpa using hlt, rfl⟩) x hxx
        simp only [DataW.weights, Try.underlying54, List.mem_cons, List.mem_append]
        exact .inr (.inl h1)))
      refine ⟨cs, hd, hcl, fun j u hu => ?_⟩
      have hj : j < 4 := by have := (List.getElem?_eq_some_iff.1 hu).1; omega
      have h9 := hat j hj
      rw [Go.Deep.add_add] at h9
      rw [h9]
      exact hu
    obtain ⟨b, off, spot⟩ := ad
    obtain ⟨cs0, _, hl0, h0⟩ := one 0 hp
    have h00 := h0 0 cs0[0] (List.getElem?_eq_getElem (by omega))
    have hspot : spot = none := by simpa [Addr.add] using World.cell?_spot h00
    subst hspot
    have he : ∀ j, (⟨b, off, none⟩ : Addr).add j = ⟨b, off + j, none⟩ := by
      intro j
      by_cases h0 : j = 0
      · subst h0; rfl
      · simp [Addr.add]; intro hj; exact absurd hj h0
    refine ⟨b, off, rfl, fun i hlt => ?_⟩
    obtain ⟨cs, d, _, hc⟩ := one i hlt
    refine ⟨cs, d, fun j u hu => ?_⟩
    have := hc j u hu
    rw [he] at this
    rw [Nat.add_assoc]
    exact this
/-- a change, as an argument -/
theorem open_change {r : Reach} {b0 : Nat} {v : Value} {d : DataW H} {p : List MemPlace} (hv : Value.okWide Try.prog w r b0 24 v) (h : DataW.Trod enc Try.prog w base (fun _ => true) held 24 v d p) (hL : Lite 24 d) :
    ∃ u c, v = .agg #[u.1, u.2.1, u.2.2] ∧ IsCh w u c := by
  obtain ⟨cs, rfl, hsz⟩ := okWide_struct Try.underlying24 hv
  obtain ⟨fuel, hf⟩ := h
  obtain ⟨u, c, e, hc⟩ := change_ofW (y := (d, p)) (cs := cs.toList) (by simpa [Value.cells] using hf) hL
  refine ⟨u, c, ?_, hc⟩
  congr 1
  apply Array.toList_inj.1
  rw [e]
  rfl
end
theorem IsDd.below {w w' : World} {cs : List Value} (h : IsDd w cs) (hb : Below w.heap.size w w') : IsDd w' cs := by
  obtain ⟨kd, n, u, c, e, h1, h2, h3⟩ := h
  exact ⟨kd, n, u, c, e, h1, h2, h3.below hb⟩
theorem IsSw.below {w w' : World} {cs : List Value} (h : IsSw w cs) (hb : Below w.heap.size w w') : IsSw w' cs := by
  obtain ⟨p, q, a, n, c, L, e, h1, h2, h3, h4, h5⟩ := h
  exact ⟨p, q, a, n, c, L, e, h1, h2, h3, (h4.below hb).mono (fun k hk => by have := hb.size; omega), h5⟩
/-- the i-th deed, read in a later world -/
theorem RdSt.deed {w W : World} {a : Option Addr} {len cap i : Nat} (h : RdSt 5 IsDd w a len cap) (hb : Below w.heap.size w W) (hi : i < len) :
    ∃ (b off : Nat) (kd n : Int) (oa na : Option Addr) (oc nc : Nat) (c : Ch), a = some ⟨b, off, none⟩ ∧ W.cell? ⟨b, off + i * 5, none⟩ = some (.int .i64 kd) ∧ W.cell? ⟨b, off + i * 5 + 1, none⟩ = some (.int .i64 n) ∧ W.cell? ⟨b, off + i * 5 + 2, none⟩ = some (.int .i64 c.pos) ∧ W.cell? ⟨b, off + i * 5 + 3, none⟩ = some (.slice oa c.old.length oc) ∧ W.cell? ⟨b, off + i * 5 + 4, none⟩ = some (.slice na c.now.length nc) ∧
      b < w.heap.size ∧ i64b kd ∧ i64b n ∧ i64b c.pos ∧ RdL (fun k => k < w.heap.size) W oa c.old.length oc c.old ∧ RdL (fun k => k < w.heap.size) W na c.now.length nc c.now ∧ WideL c.old ∧ WideL c.now := by
  obtain ⟨_, _, h3⟩ := h
  obtain ⟨b, off, rfl, h4⟩ := h3 (by omega)
  obtain ⟨cs, ⟨kd, n, u, c, rfl, i1, i2, ⟨⟨oa, oc, na, nc, rfl, r1, r2⟩, i3, w1, w2⟩⟩, hc⟩ := h4 i hi
  have c0 := hc 0 _ rfl
  have hbl := block_lt_of_cell c0
  have tr : ∀ j, W.cell? ⟨b, off + i * 5 + j, none⟩ = w.cell? ⟨b, off + i * 5 + j, none⟩ := fun j => hb.cell (p := ⟨b, off + i * 5 + j, none⟩) hbl
  exact ⟨b, off, kd, n, oa, na, oc, nc, c, rfl, (tr 0).trans c0, (tr 1).trans (hc 1 _ rfl), (tr 2).trans (hc 2 _ rfl), (tr 3).trans (hc 3 _ rfl), (tr 4).trans (hc 4 _ rfl), hbl, i1, i2, i3, r1.below hb, r2.below hb, w1, w2⟩
/-- the i-th swap, read in a later world -/
theorem RdSt.swap {w W : World} {a : Option Addr} {len cap i : Nat} (h : RdSt 4 IsSw w a len cap) (hb : Below w.heap.size w W) (hi : i < len) :
    ∃ (b off : Nat) (p q : Int) (sa : Option Addr) (n c : Nat) (L : List (List Int)) (e : Bool), a = some ⟨b, off, none⟩ ∧ W.cell? ⟨b, off + i * 4, none⟩ = some (.int .i64 p) ∧ W.cell? ⟨b, off + i * 4 + 1, none⟩ = some (.int .i64 q) ∧ W.cell? ⟨b, off + i * 4 + 2, none⟩ = some (.slice sa n c) ∧ W.cell? ⟨b, off + i * 4 + 3, none⟩ = some (.bool e) ∧
      b < w.heap.size ∧ i64b p ∧ i64b q ∧ RdL (fun k => k < w.heap.size) W sa n c L ∧ WideL L := by
  obtain ⟨_, _, h3⟩ := h
  obtain ⟨b, off, rfl, h4⟩ := h3 (by omega)
  obtain ⟨cs, ⟨p, q, sa, n, c, L, e, rfl, i1, i2, r1, w1⟩, hc⟩ := h4 i hi
  have c0 := hc 0 _ rfl
  have hbl := block_lt_of_cell c0
  have tr : ∀ j, W.cell? ⟨b, off + i * 4 + j, none⟩ = w.cell? ⟨b, off + i * 4 + j, none⟩ := fun j => hb.cell (p := ⟨b, off + i * 4 + j, none⟩) hbl
  exact ⟨b, off, p, q, sa, n, c, L, e, rfl, (tr 0).trans c0, (tr 1).trans (hc 1 _ rfl), (tr 2).trans (hc 2 _ rfl), (tr 3).trans (hc 3 _ rfl), hbl, i1, i2, r1.below hb, w1⟩
end Go.Proofs.Ytalhiedbhcklgaa.U
