/-
  The contract of 'Units'.
-/
import Derived.Test.YthceooehndiglaaDoorCUn
namespace Go.Proofs.YthceooehndiglaaDoor.U
open Go.RowKit Go.Shelf
set_option linter.unusedVariables false
set_option linter.unusedSimpArgs false
attribute [local go_sem] Oper.semAt_some

/-- what is gathered: the units so far, with what is shown of each -/
def Gath (line : List Int) (base : Nat) (W : World) (pre : List Un) (v : Value) (vs : List UV) : Prop :=
  W.ownsRow base 39 5 v vs.length (flat vs) ∧ vs.map UV.u = pre ∧ ∀ x ∈ vs, x.tx = textM line x.u ∧ W.ownsRow base 21 1 x.val x.tl (x.tx.map (Value.int .i32))
theorem Gath.keep {line base W W' pre v vs} (h : Gath line base W pre v vs) (hk : ∀ k, base ≤ k → k < W.heap.size → W'.heap[k]? = W.heap[k]?) : Gath line base W' pre v vs := by
  obtain ⟨h1, h2, h3⟩ := h
  exact ⟨own_block h1 (fun k e => hk k (h1.lt k e).1 (h1.lt k e).2), h2, fun x hx => ⟨(h3 x hx).1, own_block (h3 x hx).2 (fun k e => hk k ((h3 x hx).2.lt k e).1 ((h3 x hx).2.lt k e).2)⟩⟩

theorem len_bound {line : List Int} {tab : Nat} : ∀ (n : Nat) (pre : List Un), pre.length = n → pre <+: units line tab → pre.length ≤ lastTo pre ∧ lastTo pre ≤ line.length
  | 0, pre, hn, _ => by
    obtain rfl := List.eq_nil_of_length_eq_zero hn
    simp [lastTo]
  | n + 1, pre, hn, h => by
    rcases snoc_cases pre with rfl | ⟨p, x, rfl⟩
    · simp at hn
    · obtain ⟨h1, h2, h3, h4, _⟩ := next_unit h
      have ih := len_bound n p (by simpa using hn) (prefix_left h)
      rw [lastTo_snoc]
      have h2' : x.fr = lastTo p := h2
      simp only [List.length_append, List.length_cons, List.length_nil]
      omega
theorem Ub.set4 {W : World} {B : Nat} {f t c d : Int} (h : Ub W B f t c d) (v : Value) : (W.setCell ⟨B, 4, none⟩ v).heap[B]? = some (.cells #[.int .i64 f, .int .i64 t, .int .i64 c, .int .i64 d, v] 39 (0, 0)) := set_at h 4 v

set_option maxRecDepth 100000 in
set_option maxHeartbeats 2000000 in
theorem units_any (a : Option Addr) (len cap : Nat) (line : List Int) (t : Int) (tab : Nat) (htab : tabM t = tab) (w : World) (hr : Rd .i32 w a len cap line) (hlen : len ≤ 100000) (hg : Gl w) :
    Calls Tryd.prog 17 #[.slice a len cap, .int .i64 t] w fun e w' =>
      ∃ b m c vs, e = .returned (.slice b m c) ∧ RdU w' b m c vs ∧ vs.map UV.u = units line tab ∧ (∀ x ∈ vs, x.tx = textM line x.u) ∧ Below w.heap.size w w' := by
  have hT := tabM_in t
  have htl := textless_any a len cap t
  rw [htab] at hT htl
  have HTL := Lib.hid htl
  obtain ⟨i0, hi, hz0, hz1, hz2⟩ := info_parts infoU
  clear htab htl
  refine (callsIn_wide (n := 5)).1 ?_
  refine callsIn_of_wp_marks Tryd.func17 rfl trivial ?_ rfl
  simp only [Tryd.ntmps17, List.size_toArray, List.length_cons, List.length_nil, Nat.reduceAdd, Nat.reduceSub, Array.replicate_succ, Array.replicate_zero, List.push_toArray, List.append_toArray, List.nil_append, List.cons_append]
  gi_wp2
  refine ⟨trivial, ?_⟩
  refine (callsIn_wide.2 (HTL.out _)).mono ?_
  rintro e w2 ⟨rfl, rfl⟩
  gi_wp2
  obtain ⟨w1, hw1⟩ : ∃ w1, ((((w.alloc (.cells #[.slice a len cap] 24)).alloc (.cells #[.slice none 0 0] 29)).alloc (.cells #[.slice a len cap] 24)).alloc (.cells #[.int .i64 (tab : Nat)] 3)) = w1 := ⟨_, rfl⟩
  rw [hw1]
  have hsz : w1.heap.size = w.heap.size + 4 := by rw [← hw1]; simp
  have b0 : Boxed w1 w.heap.size 24 (.slice a len cap) := by rw [← hw1]; exact (((Boxed.new w _ _).alloc _).alloc _).alloc _
  have b1 : Boxed w1 (w.heap.size + 1) 29 (.slice none 0 0) := by
    rw [← hw1]
    have h := ((Boxed.new (w.alloc (.cells #[.slice a len cap] 24)) 29 (.slice none 0 0)).alloc (.cells #[.slice a len cap] 24)).alloc (.cells #[.int .i64 (tab : Nat)] 3)
    rwa [World.size_alloc] at h
  have bL : w1.cell? ⟨w.heap.size + 1 + 1, 0, none⟩ = some (.slice a len cap) := by
    rw [← hw1]
    have h := ((Boxed.new ((w.alloc (.cells #[.slice a len cap] 24)).alloc (.cells #[.slice none 0 0] 29)) 24 (.slice a len cap)).alloc (.cells #[.int .i64 (tab : Nat)] 3)).cell
    rwa [World.size_alloc, World.size_alloc] at h
  have bT : w1.cell? ⟨w.heap.size + 1 + 1 + 1, 0, none⟩ = some (.int .i64 (tab : Nat)) := by
    rw [← hw1]
    have h := (Boxed.new (((w.alloc (.cells #[.slice a len cap] 24)).alloc (.cells #[.slice none 0 0] 29)).alloc (.cells #[.slice a len cap] 24)) 3 (.int .i64 (tab : Nat))).cell
    rwa [World.size_alloc, World.size_alloc, World.size_alloc] at h
  have hB0 : Below w.heap.size w w1 := by rw [← hw1]; exact ((((Below.refl _ w).alloc (Nat.le_refl _) _).alloc (by simp) _).alloc (by simp; omega) _).alloc (by simp; omega) _
  have hll := hr.len
  clear hw1
  obtain ⟨B1, e1⟩ : ∃ B, w.heap.size + 1 = B := ⟨_, rfl⟩
  rw [e1] at b1 bL bT ⊢
  obtain ⟨B4, e4⟩ : ∃ B, B1 + 1 = B := ⟨_, rfl⟩
  rw [e4] at bL bT ⊢
  obtain ⟨B5, e5⟩ : ∃ B, B4 + 1 = B := ⟨_, rfl⟩
  rw [e5] at bT ⊢
  obtain ⟨base, hbase⟩ : ∃ base, w1.heap.size + 3 = base := ⟨_, rfl⟩
  refine range_own (w := w1) rfl (by omega) (gf := 34) (lb := #[.pointer (some ⟨B4, 0, none⟩), .pointer (some ⟨B5, 0, none⟩)]) rfl trivial (enters_of Tryd.func34 (by kernel_rfl) rfl)
    (encs := fun u : Un => #[unV u]) (us := units line tab) (E := fun k => k = B1) (fun k e => by omega) (fun _ => rfl)
    (fun o => textless_iter _ a len cap line tab hT hlen _ _ w _ hr hg ((hB0.alloc (by omega) _).alloc (by simp; omega) _) _ (fun k e => by constructor; omega; simp; omega) ?i1 ?i2 (by omega) (by omega))
    (fun pre W => (Boxed W w.heap.size 24 (.slice a len cap) ∧ ∃ v vs, Boxed W B1 29 v ∧ Gath line base W pre v vs) ∧ Below w.heap.size w W)
    (fun _ _ _ => False)
    ?hI (fun _ _ _ _ h _ => h.elim) ⟨⟨b0, .slice none 0 0, [], b1, World.ownsRow_nil _ _ _ _, rfl, by simp⟩, hB0⟩
    (fun pre x a' W => ∃ Bx v vs, w1.heap.size + 2 < Bx ∧ Ub W Bx x.fr x.to x.col x.wd ∧ v.ownBlock ≠ some Bx ∧ (Boxed W w.heap.size 24 (.slice a len cap) ∧ Boxed W B1 29 v ∧ Gath line base W pre v vs) ∧ Below w.heap.size w W ∧
      a' = { tmps := #[.slice a len cap, .int .i64 t, .pointer (some ⟨w.heap.size, 0, none⟩), undef, .slice none 0 0, .pointer (some ⟨B1, 0, none⟩), .pointer (some ⟨Bx, 0, none⟩), .slice a len cap, .int .i64 t,
        .func (.func 34) #[] #[.pointer (some ⟨B4, 0, none⟩), .pointer (some ⟨B5, 0, none⟩)], unV x, undef, undef, undef, undef, undef, undef, undef, undef, undef], defers := [] })
    ?hAx ?assign ?body ?done ?stop
  case i1 => exact ((Below.refl w1.heap.size w1).alloc (Nat.le_refl _) _ |>.alloc (by simp) _).cell (p := ⟨B4, 0, none⟩) (by simp only; omega) |>.trans bL
  case i2 => exact ((Below.refl w1.heap.size w1).alloc (Nat.le_refl _) _ |>.alloc (by simp) _).cell (p := ⟨B5, 0, none⟩) (by simp only; omega) |>.trans bT
  case hI =>
    rintro s W W' ⟨⟨h1, v, vs, h2, h3⟩, h5⟩ hb
    exact ⟨⟨(hb.block _ h1.lt (by omega)).trans h1, v, vs, (hb.block _ h2.lt (by omega)).trans h2, h3.keep (fun k k1 k2 => hb.block k k2 (by omega))⟩, h5.trans (hb.below h5.size (fun k hk e => by omega))⟩
  case hAx =>
    rintro pre x a' W W' ⟨Bx, v, vs, hx, hu, hvb, ⟨h1, h2, h3⟩, h5, rfl⟩ hb
    exact ⟨Bx, v, vs, hx, hu.keep (hb.block _ hu.lt (by omega)), hvb, ⟨(hb.block _ h1.lt (by omega)).trans h1, (hb.block _ h2.lt (by omega)).trans h2, h3.keep (fun k k1 k2 => hb.block k k2 (by omega))⟩, h5.trans (hb.below h5.size (fun k hk e => by omega)), rfl⟩
  case assign =>
    rintro l pre x W K hlt ⟨⟨h1, v, vs, h2, h3⟩, h5⟩ hpre hK
    have H3 := Lib.hid h3
    clear h3
    unfold unV
    gi_wp2
    refine hK _ _ ?_ ⟨W.heap.size, v, vs, by omega, Ub.new W _ _ _ _, ?_, ⟨h1.alloc _, h2.alloc _, H3.out.keep (fun k _ k2 => Below.heap_alloc _ _ _ k2)⟩, h5.alloc h5.size _, rfl⟩
    · exact (But.refl _ _ W).alloc (by omega) _
    · intro e
      have := (H3.out.1.lt _ e).2
      omega
  case body =>
    rintro l pre x a' W hlt ⟨Bx, v, vs, hx, hu, hvb, ⟨h1, h2, h3⟩, h5, rfl⟩ hpre
    obtain ⟨n1, n2, n3, n4, n5, -⟩ := next_unit hpre
    rw [hll] at n4
    have hw64 : x.wd ≤ 64 := by rw [n5]; exact width1_le hT
    have htx := text_any a len cap line W (hr.below h5) (hg.below hg.lt h5) x n3 n4 hlen hw64
    unfold unV at htx
    have HTX := Lib.hid htx
    clear n1 n2 n5 htx
    have c0 := h1.cell
    obtain ⟨u0, u1, u2, u3, u4⟩ := hu.cells
    have H1 := Lib.hid h1
    have H2 := Lib.hid h2
    have H3 := Lib.hid h3
    have H5 := Lib.hid h5
    have HU := Lib.hid hu
    clear h1 h2 h3 h5 hu
    gi_wp2
    refine ⟨trivial, ?_⟩
    refine CallsIn.inRound l ((callsIn_wide.2 HTX.out).mono ?_)
    rintro e w2 ⟨tv, rfl, hown2, hb2⟩
    obtain ⟨ta, tc, rfl⟩ := own_slice hown2
    have hlb := len_bound _ _ rfl hpre
    rw [lastTo_snoc] at hlb
    simp only [List.length_append, List.length_cons, List.length_nil] at hlb
    have hvl : vs.length = pre.length := by rw [← H3.out.2.1]; simp
    have hs2 := hb2.size
    obtain ⟨y, hy⟩ : ∃ y : UV, y = ⟨x, ta, (textM line x).length, tc, textM line x⟩ := ⟨_, rfl⟩
    have hyc : y.cells = [.int .i64 x.fr, .int .i64 x.to, .int .i64 x.col, .int .i64 x.wd, .slice ta (textM line x).length tc] := by rw [hy]; rfl
    have hyv : y.val = .slice ta (textM line x).length tc := by rw [hy]; rfl
    have hyo : y.tx = textM line y.u ∧ w2.ownsRow base 21 1 y.val y.tl (y.tx.map (Value.int .i32)) := by rw [hy]; exact ⟨rfl, own_mono hown2 (by omega)⟩
    have hyu : y.u = x := by rw [hy]
    obtain ⟨m, hm⟩ : ∃ m, (textM line x).length = m := ⟨_, rfl⟩
    rw [hm] at hown2 hyc hyv ⊢
    obtain ⟨w3, hw3⟩ : ∃ w3, w2.setCell ⟨Bx, 4, none⟩ (.slice ta m tc) = w3 := ⟨_, rfl⟩
    have hBx := HU.out.lt
    have h1l := H1.out.lt
    have h2l := H2.out.lt
    have hU2 := HU.out.keep (hb2.block _ hBx)
    have g0 := hU2.frozen 4
    have q4 := hU2.cells.2.2.2.2
    have h34 := hU2.set4 (.slice ta m tc)
    rw [hw3] at h34
    have s3 : w3.heap.size = w2.heap.size := by rw [← hw3]; simp [World.setCell]
    have k3 : ∀ k, k ≠ Bx → w3.heap[k]? = w2.heap[k]? := fun k hk => by rw [← hw3]; exact Below.heap_setCell _ _ _ _ hk
    have hB3 : Boxed w3 B1 29 v := (k3 B1 (by omega)).trans ((hb2.block _ h2l).trans H2.out)
    have hL3 : Boxed w3 w.heap.size 24 (.slice a len cap) := (k3 w.heap.size (by omega)).trans ((hb2.block _ h1l).trans H1.out)
    have hrow3 : w3.ownsRow base 39 5 v vs.length (flat vs) := own_block (H3.out.1) (fun k e => by
      have hk := (H3.out.1.lt k e).2
      exact (k3 k (fun e2 => hvb (by rw [e, e2]))).trans (hb2.block k hk))
    have htx3 : ∀ z ∈ vs, z.tx = textM line z.u ∧ w3.ownsRow base 21 1 z.val z.tl (z.tx.map (Value.int .i32)) := fun z hz => by
      obtain ⟨z1, z2⟩ := H3.out.2.2 z hz
      refine ⟨z1, own_block z2 (fun k e => ?_)⟩
      have hk := (z2.lt k e).2
      refine (k3 k (fun e2 => ?_)).trans (hb2.block k hk)
      obtain ⟨cur, hc⟩ := own_heap z2 e
      rw [e2, show W.heap[Bx]? = _ from HU.out] at hc
      simp at hc
    have hy3 : w3.ownsRow base 21 1 y.val y.tl (y.tx.map (Value.int .i32)) := own_block hyo.2 (fun k e => by
      refine k3 k (fun e2 => ?_)
      rw [hyv] at e
      have := (hown2.lt k e).1
      omega)
    have cb : w3.cell? ⟨B1, 0, none⟩ = some v := hB3.cell
    have d0 : w3.cell? ⟨Bx, 0, none⟩ = some (.int .i64 x.fr) := by simp [World.cell?, h34]
    have d1 : w3.cell? ⟨Bx, 1, none⟩ = some (.int .i64 x.to) := by simp [World.cell?, h34]
    have d2 : w3.cell? ⟨Bx, 2, none⟩ = some (.int .i64 x.col) := by simp [World.cell?, h34]
    have d3 : w3.cell? ⟨Bx, 3, none⟩ = some (.int .i64 x.wd) := by simp [World.cell?, h34]
    have d4 : w3.cell? ⟨Bx, 4, none⟩ = some (.slice ta m tc) := by simp [World.cell?, h34]
    have hnews := news_cells w3 y 39
    rw [hyc] at hnews
    have hbb : But base (fun k => k = B1) W w3 := by
      rw [← hw3]
      exact (But.of_below (hb2.mono (by omega))).setCell (p := ⟨Bx, 4, none⟩) (.inl (by simp only; omega)) _
    have hbw : Below w.heap.size w w3 := by
      rw [← hw3]
      exact (H5.out.trans (hb2.mono H5.out.size)).setCell (p := ⟨Bx, 4, none⟩) (by simp only; omega) _
    have HROW := Lib.hid hrow3
    have HTX3 := Lib.hid htx3
    have HY3 := Lib.hid hy3
    have HY := Lib.hid hyo.1
    have HYU := Lib.hid hyu
    have HYV := Lib.hid hyv
    have HYC := Lib.hid hyc
    have HBB := Lib.hid hbb
    have HBW := Lib.hid hbw
    have HB3 := Lib.hid hB3
    have HL3 := Lib.hid hL3
    have HN := Lib.hid hnews
    have HVB := Lib.hid hvb
    have HVL := Lib.hid hvl
    have HM := Lib.hid hm
    have HS3 := Lib.hid s3
    clear hy hyo hyu hyv hyc hown2 hrow3 htx3 hy3 hbb hbw hB3 hL3 hnews k3 h34 hU2 HTX c0 u0 u1 u2 u3 u4 hvb hvl hm hb2 s3
    gi_wp2_with (gi_at_builtin; refine wpListIn_append_own _ rfl (.tmp 15) (.tmp 17) 29 rfl base 39 i0 _ 5 56 Tryd.underlying29 hi hz0 hz1 hz2 rfl (by decide) v vs.length (flat vs) rfl (HROW.out.alloc _) ⟨w3.heap.size, 0, none⟩ 1 1 [.int .i64 x.fr, .int .i64 x.to, .int .i64 x.col, .int .i64 x.wd, .slice ta m tc] rfl rfl HN.out (by simp [Value.oneCell']) (by have := HVL.out; unfold maxLen; omega) (by have := HVL.out; omega) (by simp; have := HS3.out; omega) ?_; intro v' w4 hown' hgrow _; obtain ⟨g', cap', rfl⟩ := ownsRow_succ hown'; have hv1 : Boxed w4 B1 29 v := (HB3.out.alloc _).kept hgrow (HB3.out.not_row (by decide) HROW.out); have hc1 := hv1.cell; have hf1 := hv1.frozen)
    have hset := hv1.set (.slice (some ⟨g', 0, none⟩) (vs.length + 1) cap')
    have hs3 := HS3.out
    have hvl := HVL.out
    refine ⟨?_, ⟨?_, _, vs ++ [y], hset, ?_, ?_, ?_⟩, ?_⟩
    · rw [show w1.heap.size + 3 = base from hbase]
      exact ((HBB.out.alloc (by omega) _).grown hgrow (by simp; omega) (fun k e => .inl (HROW.out.lt k e).1)).setCell (p := ⟨B1, 0, none⟩) (.inr rfl) _
    · exact (Below.heap_setCell _ _ _ _ (by simp only; omega)).trans (((HL3.out.alloc _).kept hgrow (fun e => by have := (HROW.out.lt _ e.symm).1; omega)))
    · have e1 : (vs ++ [y]).length = vs.length + 1 := by simp
      rw [e1, flat_snoc, HYC.out]
      exact own_block hown' (fun k e => Below.heap_setCell _ _ _ _ (by have := (hown'.lt k e).1; simp only; omega))
    · rw [List.map_append, H3.out.2.1, List.map_cons, List.map_nil, HYU.out]
    · intro z hz
      have hz3 : z.tx = textM line z.u ∧ w3.ownsRow base 21 1 z.val z.tl (z.tx.map (Value.int .i32)) := by
        rcases List.mem_append.1 hz with h | h
        · exact HTX3.out z h
        · simp only [List.mem_singleton] at h
          subst h
          exact ⟨HY.out, HY3.out⟩
      refine ⟨hz3.1, own_block hz3.2 (fun k e => ?_)⟩
      have hk := hz3.2.lt k e
      refine (Below.heap_setCell _ _ _ _ (by simp only; omega)).trans ((hgrow.block k (by simp; omega) (rows_apart hz3.2 HROW.out (by decide) e)).trans (Below.heap_alloc _ _ _ hk.2))
    · exact (((HBW.out.alloc (by have := HBW.out.size; omega) _).grown hgrow (by have := HBW.out.size; simp; omega) (fun k e => by have := (HROW.out.lt k e).1; omega))).setCell (p := ⟨B1, 0, none⟩) (by simp only; omega) _
  case done =>
    rintro W ⟨⟨h1, v, vs, h2, h3⟩, h5⟩ hK
    have c1 := h2.cell
    have H2 := Lib.hid h2
    have H3 := Lib.hid h3
    have H5 := Lib.hid h5
    have HK := Lib.hid hK
    have hvo : ∃ b c, v = .slice b vs.length c := own_slice h3.1
    obtain ⟨b, c, rfl⟩ := hvo
    clear h1 h2 h3 h5 hK
    gi_wp2
    refine ⟨by simp, .inl ⟨_, _, rfl, run_takeDeferred HK.out, ?_⟩⟩
    have kk : ∀ k, base ≤ k → k < W.heap.size → (W.putObj w1.heap.size (.deferred none)).heap[k]? = W.heap[k]? := fun k k1 _ => World.putObj_heap_other (by omega)
    have hG := H3.out.keep kk
    refine ⟨_, results_tmp rfl _ _ _, b, vs.length, c, vs, rfl, ?_, hG.2.1, fun x hx => (hG.2.2 x hx).1, H5.out.grown (grownBy_putObj' W _ _) H5.out.size (fun k e => by cases e; omega)⟩
    exact RdU.own hG.1 (fun x hx => ⟨(hG.2.2 x hx).2, fun r hr' => by rw [(hG.2.2 x hx).1] at hr'; exact textM_wf hr.2.2.2.1 _ r hr'⟩)
  case stop =>
    rintro j pre W _ h _
    exact h.elim
end Go.Proofs.YthceooehndiglaaDoor.U
