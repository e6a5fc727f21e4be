/-
  The program's list: add.
-/
import Derived.Test.YtkjiobbkbhmijaaRStar
namespace Go.Proofs.Ytkjiobbkbhmijaa.U
open Go.RowKit
set_option linter.unusedVariables false
set_option linter.unusedSimpArgs false
set_option maxRecDepth 100000

theorem infoRe : (Try.prog.info? 26).map (fun i => (i.zero, i.size, i.bytes)) = some (some (.agg #[.int .i64 0, .int .i32 0, .slice none 0 0, .bool false, .int .i64 0, .int .i64 0, .slice none 0 0]), 7, 88) := by kernel_rfl
/-- append a part's cells that have just been laid -/
theorem app_re (w : World) (B : Nat) (v : Value) (n : Nat) (xs : List Value) (cs : List Value) (hl : cs.length = 7) (h1 : ∀ u ∈ cs, u.oneCell' = true) (hown : w.ownsRow B 26 7 v n xs) (hB : B ≤ w.heap.size) (hn : n ≤ 100000) :
    ∃ a' c' w', (∀ ty, (Builtin.append_ #[24, 24] ty #[v, .slice (some ⟨w.heap.size, 0, none⟩) 1 1]).run Try.prog (w.alloc (.cells cs.toArray 26)) = .ok (.slice a' (n + 1) c') w') ∧ w'.ownsRow B 26 7 (.slice a' (n + 1) c') (n + 1) (xs ++ cs) ∧
      Fr (fun k => some k = v.ownBlock) w w' ∧ (∀ k, (Value.slice a' (n + 1) c').ownBlock = some k → v.ownBlock = some k ∨ w.heap.size ≤ k) := by
  obtain ⟨i0, hi0, hz0, hz1, hz2⟩ := info_parts infoRe
  have hb0 : Below w.heap.size w (w.alloc (.cells cs.toArray 26)) := (Below.refl _ w).alloc (Nat.le_refl _) _
  obtain ⟨v', w1, hrun, hown1, hfr, hnear⟩ := run_append_own_k (P := Try.prog) (w.alloc (.cells cs.toArray 26)) B 24 26 i0 _ 7 88 Try.underlying24 hi0 hz0 hz1 hz2 rfl (by decide) v n _ (hown.alloc _) (some ⟨w.heap.size, 0, none⟩) 1 1 cs (by rw [hl])
    (fun _ => ⟨_, rfl, by have := src_of (off := 0) (m := 7) (cur := cs) (heap_alloc_new w (.cells cs.toArray 26)); rw [List.drop_zero, List.take_of_length_le (by omega)] at this; exact this⟩) h1 (by unfold maxLen; omega) (by omega) (by simp; omega)
  obtain ⟨a', c', rfl⟩ := own_slice hown1
  refine ⟨a', c', w1, hrun, hown1, (Fr.of_below _ hb0).trans hfr (fun _ _ h => h), fun k hk => ?_⟩
  rcases hnear with e | e
  · exact Or.inl (e ▸ hk)
  · rw [hk] at e
    simp only [Option.some.injEq] at e
    rw [e]
    simp
theorem set7' (cur vs : List Value) (n : Nat) (hv : vs.length = n * 7) (z0 z1 z2 z3 z4 z5 z6 a0 a1 a2 a3 a4 a5 a6 : Value) (h : cur.take ((n + 1) * 7) = vs ++ [z0, z1, z2, z3, z4, z5, z6]) :
    ∃ cur' : List Value, ((((((((cur.toArray.setIfInBounds (n * 7) a0).setIfInBounds (n * 7 + 1) a1).setIfInBounds (n * 7 + 2) a2).setIfInBounds (n * 7 + 3) a3).setIfInBounds (n * 7 + 4) a4).setIfInBounds (n * 7 + 5) a5).setIfInBounds (n * 7 + 6) a6)) = cur'.toArray ∧
      cur'.length = cur.length ∧ cur'.take ((n + 1) * 7) = vs ++ [a0, a1, a2, a3, a4, a5, a6] := by
  obtain ⟨rest, hr⟩ : ∃ rest, cur = vs ++ (z0 :: z1 :: z2 :: z3 :: z4 :: z5 :: z6 :: rest) := by
    refine ⟨cur.drop ((n + 1) * 7), ?_⟩
    have := List.take_append_drop ((n + 1) * 7) cur
    rw [h] at this
    rw [List.append_assoc] at this
    exact this.symm
  have hs : ∀ (L : List Value) (j : Nat) (v : Value), (vs ++ L).set (n * 7 + j) v = vs ++ L.set j v := by
    intro L j v
    rw [List.set_append_right _ _ (by omega)]
    congr 2
    omega
  refine ⟨vs ++ (a0 :: a1 :: a2 :: a3 :: a4 :: a5 :: a6 :: rest), ?_, ?_, ?_⟩
  · rw [hr]
    have h0 := hs (z0 :: z1 :: z2 :: z3 :: z4 :: z5 :: z6 :: rest) 0 a0
    rw [Nat.add_zero] at h0
    simp only [List.setIfInBounds_toArray]
    rw [h0, hs, hs, hs, hs, hs, hs]
    rfl
  · rw [hr]; simp
  · rw [show (n + 1) * 7 = vs.length + 7 by omega, List.take_length_add_append]
    simp
theorem w7a {w3 : World} {g q i : Nat} {cur : Array Value} {c0 c1 : Value} {tq tg : TypeId} (hg : w3.heap[g]? = some (.cells cur tg (0, 0))) (hq : w3.heap[q]? = some (.cells #[c0, c1] tq (0, 0))) (hne : ¬ g = q) (hne2 : ¬ q = g) (a0 a1 a2 a3 a4 a5 a6 d : Value) :
    ((((((((w3.setCell ⟨g, i, none⟩ a0).setCell ⟨g, i + 1, none⟩ a1).setCell ⟨g, i + 2, none⟩ a2).setCell ⟨g, i + 3, none⟩ a3).setCell ⟨g, i + 4, none⟩ a4).setCell ⟨g, i + 5, none⟩ a5).setCell ⟨g, i + 6, none⟩ a6).setCell ⟨q, 0, none⟩ d).heap[q]? = some (.cells #[d, c1] tq (0, 0)) ∧ ((((((((w3.setCell ⟨g, i, none⟩ a0).setCell ⟨g, i + 1, none⟩ a1).setCell ⟨g, i + 2, none⟩ a2).setCell ⟨g, i + 3, none⟩ a3).setCell ⟨g, i + 4, none⟩ a4).setCell ⟨g, i + 5, none⟩ a5).setCell ⟨g, i + 6, none⟩ a6).setCell ⟨q, 0, none⟩ d).heap[g]? = some (.cells (((((((cur.setIfInBounds i a0).setIfInBounds (i + 1) a1).setIfInBounds (i + 2) a2).setIfInBounds (i + 3) a3).setIfInBounds (i + 4) a4).setIfInBounds (i + 5) a5).setIfInBounds (i + 6) a6) tg (0, 0)) ∧ Fr (fun j => j = q ∨ j = g) w3 ((((((((w3.setCell ⟨g, i, none⟩ a0).setCell ⟨g, i + 1, none⟩ a1).setCell ⟨g, i + 2, none⟩ a2).setCell ⟨g, i + 3, none⟩ a3).setCell ⟨g, i + 4, none⟩ a4).setCell ⟨g, i + 5, none⟩ a5).setCell ⟨g, i + 6, none⟩ a6).setCell ⟨q, 0, none⟩ d) := by
  have h7 := heap_set (heap_set (heap_set (heap_set (heap_set (heap_set (heap_set hg i a0) (i + 1) a1) (i + 2) a2) (i + 3) a3) (i + 4) a4) (i + 5) a5) (i + 6) a6
  have hq7 : (((((((w3.setCell ⟨g, i, none⟩ a0).setCell ⟨g, i + 1, none⟩ a1).setCell ⟨g, i + 2, none⟩ a2).setCell ⟨g, i + 3, none⟩ a3).setCell ⟨g, i + 4, none⟩ a4).setCell ⟨g, i + 5, none⟩ a5).setCell ⟨g, i + 6, none⟩ a6).heap[q]? = some (.cells #[c0, c1] tq (0, 0)) := by
    rw [Below.heap_setCell _ _ _ _ hne2, Below.heap_setCell _ _ _ _ hne2, Below.heap_setCell _ _ _ _ hne2, Below.heap_setCell _ _ _ _ hne2, Below.heap_setCell _ _ _ _ hne2, Below.heap_setCell _ _ _ _ hne2, Below.heap_setCell _ _ _ _ hne2]; exact hq
  refine ⟨heap_set hq7 0 d, (Below.heap_setCell _ _ _ _ hne).trans h7, ?_⟩
  (repeat' (refine Fr.setCell ?_ _ _ ?_)) <;> first | exact Fr.refl _ _ | exact fun _ => Or.inl rfl | exact fun _ => Or.inr rfl
theorem w7b {w3 : World} {g q i : Nat} {cur : Array Value} {c0 c1 : Value} {tq tg : TypeId} (hg : w3.heap[g]? = some (.cells cur tg (0, 0))) (hq : w3.heap[q]? = some (.cells #[c0, c1] tq (0, 0))) (hne : ¬ g = q) (hne2 : ¬ q = g) (a0 a1 a2 a3 a4 a5 a6 d : Value) :
    (((((((((w3.setCell ⟨q, 0, none⟩ d).setCell ⟨g, i, none⟩ a0).setCell ⟨g, i + 1, none⟩ a1).setCell ⟨g, i + 2, none⟩ a2).setCell ⟨g, i + 3, none⟩ a3).setCell ⟨g, i + 4, none⟩ a4).setCell ⟨g, i + 5, none⟩ a5).setCell ⟨g, i + 6, none⟩ a6)).heap[q]? = some (.cells #[d, c1] tq (0, 0)) ∧ (((((((((w3.setCell ⟨q, 0, none⟩ d).setCell ⟨g, i, none⟩ a0).setCell ⟨g, i + 1, none⟩ a1).setCell ⟨g, i + 2, none⟩ a2).setCell ⟨g, i + 3, none⟩ a3).setCell ⟨g, i + 4, none⟩ a4).setCell ⟨g, i + 5, none⟩ a5).setCell ⟨g, i + 6, none⟩ a6)).heap[g]? = some (.cells (((((((cur.setIfInBounds i a0).setIfInBounds (i + 1) a1).setIfInBounds (i + 2) a2).setIfInBounds (i + 3) a3).setIfInBounds (i + 4) a4).setIfInBounds (i + 5) a5).setIfInBounds (i + 6) a6) tg (0, 0)) ∧ Fr (fun j => j = q ∨ j = g) w3 (((((((((w3.setCell ⟨q, 0, none⟩ d).setCell ⟨g, i, none⟩ a0).setCell ⟨g, i + 1, none⟩ a1).setCell ⟨g, i + 2, none⟩ a2).setCell ⟨g, i + 3, none⟩ a3).setCell ⟨g, i + 4, none⟩ a4).setCell ⟨g, i + 5, none⟩ a5).setCell ⟨g, i + 6, none⟩ a6)) := by
  have hg0 : (w3.setCell ⟨q, 0, none⟩ d).heap[g]? = some (.cells cur tg (0, 0)) := (Below.heap_setCell _ _ _ _ hne).trans hg
  have h7 := heap_set (heap_set (heap_set (heap_set (heap_set (heap_set (heap_set hg0 i a0) (i + 1) a1) (i + 2) a2) (i + 3) a3) (i + 4) a4) (i + 5) a5) (i + 6) a6
  have hq7 : (((((((((w3.setCell ⟨q, 0, none⟩ d).setCell ⟨g, i, none⟩ a0).setCell ⟨g, i + 1, none⟩ a1).setCell ⟨g, i + 2, none⟩ a2).setCell ⟨g, i + 3, none⟩ a3).setCell ⟨g, i + 4, none⟩ a4).setCell ⟨g, i + 5, none⟩ a5).setCell ⟨g, i + 6, none⟩ a6)).heap[q]? = some (.cells #[d, c1] tq (0, 0)) := by
    rw [Below.heap_setCell _ _ _ _ hne2, Below.heap_setCell _ _ _ _ hne2, Below.heap_setCell _ _ _ _ hne2, Below.heap_setCell _ _ _ _ hne2, Below.heap_setCell _ _ _ _ hne2, Below.heap_setCell _ _ _ _ hne2, Below.heap_setCell _ _ _ _ hne2]; exact heap_set hq 0 d
  refine ⟨hq7, h7, ?_⟩
  (repeat' (refine Fr.setCell ?_ _ _ ?_)) <;> first | exact Fr.refl _ _ | exact fun _ => Or.inl rfl | exact fun _ => Or.inr rfl
theorem own_ad {w : World} {B : Nat} {e : TypeId} {s : Nat} {a : Option Addr} {n c m : Nat} {xs : List Value} (h : w.ownsRow B e s (.slice a n c) m xs) : (∀ ad, a = some ad → (Value.slice a n c).ownBlock = some ad.block) ∧ (∀ k, (Value.slice a n c).ownBlock = some k → ∃ ad, a = some ad ∧ ad.block = k) := by
  rcases h.2 with ⟨hv, _⟩ | ⟨g, cap, cur, hv, _⟩
  · simp only [Value.slice.injEq] at hv
    obtain ⟨rfl, rfl, rfl⟩ := hv
    exact ⟨fun ad e => by simp at e, fun k e => by simp [Value.ownBlock] at e⟩
  · simp only [Value.slice.injEq] at hv
    obtain ⟨rfl, rfl, rfl⟩ := hv
    refine ⟨fun ad e => ?_, fun k e => ⟨_, rfl, ?_⟩⟩
    · cases e; rfl
    · simpa [Value.ownBlock] using e
set_option maxHeartbeats 8000000 in
theorem add_small (q : Nat) (acc : List Re) (x : Re) (v : List Value) (w0 w : World) (G : Nat → Prop) (h : LsAt w0 q acc) (hf : Fr G w0 w) (hG : ∀ k, G k → k < q) (hx : PtAt (New w0 w) w v x) (hs : szs acc + x.sz ≤ 400) :
    Calls Try.prog 31 #[.pointer (some ⟨q, 0, none⟩), ptV v x] w fun e w' => e = .returned (.tuple #[]) ∧ LsAt w' q (acc ++ [x]) ∧ Fr (fun k => q ≤ k) w w' := by
  have hq0 := h.lt
  have hsz := hf.size
  have hRe := hx.1 (by omega)
  obtain ⟨k, r, sa, sn, sc, nt, l0, h0, pa, pn, pc, hv⟩ := hRe.rev7
  have hpt : ptV v x = .agg #[.int .i64 k, .int .i32 r, .slice sa sn sc, .bool nt, .int .i64 l0, .int .i64 h0, .slice pa pn pc, .int .i64 (x.sz : Nat)] := by unfold ptV; rw [hv, Nat.min_eq_left (by omega)]; rfl
  rw [hpt]
  obtain ⟨vs, ps, a, c, hg, hown, hps, hacc, hss⟩ := h
  have hown0 : ∀ j, (Value.slice a ps.length c).ownBlock = some j → j < w0.heap.size := fun j hj => (hown.lt j hj).2
  replace hg := (hf.block q (heap_lt hg) (fun e => by have := hG _ e; omega)).trans hg
  replace hps : PsAt (Lf w q a) w vs ps := PsAt.mono (fun k hk => ⟨hk.1, by have := hk.2.1; omega, hk.2.2⟩) ps (PsAt.frF hf (fun k hk e => by have := hG _ e; have := hk.1; omega) ps hps)
  replace hown := own_fr hown hf (fun k hk e => by have := (hown.lt k hk).1; have := hG _ e; omega)
  obtain rfl := hacc (by omega)
  rw [Nat.min_eq_left (by omega)] at hg
  obtain ⟨s1, hs1⟩ : ∃ s1, szs ps = s1 := ⟨_, rfl⟩
  obtain ⟨s2, hs2⟩ : ∃ s2, x.sz = s2 := ⟨_, rfl⟩
  rw [hs1, hs2] at hs
  rw [hs1] at hg
  rw [hs2]
  obtain ⟨w1, hw1⟩ : ∃ w1, w.alloc (.cells #[.int .i64 k, .int .i32 r, .slice sa sn sc, .bool nt, .int .i64 l0, .int .i64 h0, .slice pa pn pc, .int .i64 (s2 : Nat)] 55) = w1 := ⟨_, rfl⟩
  have hb1 : Below w.heap.size w w1 := by rw [← hw1]; exact (Below.refl _ w).alloc (Nat.le_refl _) _
  have hgA : w1.heap[w.heap.size]? = some (.cells #[.int .i64 k, .int .i32 r, .slice sa sn sc, .bool nt, .int .i64 l0, .int .i64 h0, .slice pa pn pc, .int .i64 (s2 : Nat)] 55 (0, 0)) := by rw [← hw1]; exact heap_alloc_new w _
  have hg1 := (hb1.block q (by omega)).trans hg
  obtain ⟨p0, p1, p2, p3, p4, p5, p6, p7, -, -, -, -, -, -, -, -⟩ := row8 hgA
  have q0 : w1.cell? ⟨q, 0, none⟩ = some (.slice a ps.length c) := by rw [cell_row hg1]; rfl
  have q1 : w1.cell? ⟨q, 1, none⟩ = some (.int .i64 (s1 : Nat)) := by rw [cell_row hg1]; rfl
  have z0 := frozen_row hg1 0
  have z1 := frozen_row hg1 1
  have t1 : (s1 : Int) + (s2 : Int) ≤ 401 := by omega
  have t2 : (s1 : Int) + (s2 : Int) < 401 := by omega
  have hne1 : ¬ q = w.heap.size := by omega
  have hne2 : ¬ w.heap.size = q := by omega
  obtain ⟨n, hn⟩ : ∃ n, ps.length = n := ⟨_, rfl⟩
  rw [hn] at q0 hg1 hown hown0
  have HOWN0 := Lib.hid hown0
  clear hown0
  have hnb : n ≤ 400 := by have := len_szs ps; omega
  have HV := Lib.hid hv
  have HPT := Lib.hid hpt
  have H1 := Lib.hid hs1
  have H2 := Lib.hid hs2
  have HN := Lib.hid hn
  have HG0 := Lib.hid hg
  have HLT := Lib.hid hsz
  have HGA := Lib.hid hgA
  have HG1 := Lib.hid hg1
  have HB1 := Lib.hid hb1
  have HOWN := Lib.hid hown
  have HPS := Lib.hid hps
  have HRE := Lib.hid hRe
  have hsw : w1.heap.size = w.heap.size + 1 := by rw [← hw1]; simp
  have HSW := Lib.hid hsw
  clear hv hpt hs1 hs2 hn hg hgA hg1 hb1 hown hps hRe hsw hx hf hG hacc hss
  have HW1 := Lib.hid hw1
  clear hw1
  go_enter Try.func31, Try.ntmps31
  go_upto_region 1 with fail
  rw [HW1.out]
  go_cut [] from 4 to 14 (fun wx => Hid (wx.heap[q]? = some (.cells #[.slice a n c, .int .i64 ((s1 : Int) + (s2 : Int))] 61 (0, 0))) ∧ Hid (Fr (· = q) w1 wx))
  case first =>
    go_region
    all_goals go_wp2
    all_goals go_meet
    all_goals exact ⟨heap_set HG1.out 1 _, ((Fr.refl (· = q) w1).setCell ⟨q, 1, none⟩ _ (fun _ => rfl)).drew⟩
  case rest =>
  obtain ⟨HGX, HFX⟩ := hcut
  have q0x : wc.cell? ⟨q, 0, none⟩ = some (.slice a n c) := by rw [cell_row HGX.out]; rfl
  have q1x : wc.cell? ⟨q, 1, none⟩ = some (.int .i64 ((s1 : Int) + (s2 : Int))) := by rw [cell_row HGX.out]; rfl
  have z0x := frozen_row HGX.out 0
  have HGAX := Lib.hid ((HFX.out.block w.heap.size (by have := HSW.out; omega) (by omega)).trans HGA.out)
  obtain ⟨r0, r1, r2, r3, r4, r5, r6, r7, -, -, -, -, -, -, -, -⟩ := row8 HGAX.out
  clear p0 p1 p2 p3 p4 p5 p6 p7 q0 q1 z0 z1
  -- the append, in the world behind the draw
  have hNB : ∀ k, (Value.slice a n c).ownBlock = some k → k ≠ q := fun k hk => row_block_apart HOWN.out HG0.out (by decide) hk
  have hOX : wc.drew.ownsRow q 26 7 (.slice a n c) n vs := by
    have h1 := own_fr HOWN.out (Fr.of_below (fun _ => False) HB1.out) (fun _ _ h => h)
    have h2 := own_fr h1 HFX.out (fun k hk e => hNB k hk e)
    exact own_fr h2 ((Fr.refl (fun _ => False) wc).drew) (fun _ _ h => h)
  obtain ⟨a', c', w3, hrun, hown3, hf3, hnear⟩ := app_re wc.drew q (.slice a n c) n vs zero7 rfl Rev7.zero.one1 hOX (by have := HFX.out.size; have := HSW.out; show q ≤ wc.heap.size; omega) (by omega)
  obtain ⟨g, hga⟩ := own_some hown3 (by omega)
  subst hga
  obtain ⟨cur, hg3, hcl, htk, hnc, hcm, hqg, -⟩ := own_cur hown3
  have HRUN := Lib.hid hrun
  have HOWN3 := Lib.hid hown3
  have HF3 := Lib.hid hf3
  have HNEAR := Lib.hid hnear
  have HG3 := Lib.hid hg3
  have HTK := Lib.hid htk
  have HCL := Lib.hid hcl
  clear hrun hown3 hf3 hnear hg3 htk hcl
  have u0 : ∀ j, j < 7 → ∃ u, w3.cell? ⟨g, n * 7 + j, none⟩ = some u ∧ w3.frozen? ⟨g, n * 7 + j, none⟩ = false := by
    intro j hj
    have hl : n * 7 + j < cur.length := by rw [HCL.out]; omega
    refine ⟨cur[n * 7 + j], ?_, frozen_row HG3.out _⟩
    rw [cell_row HG3.out]
    simp [hl]
  obtain ⟨u0', e0, f0⟩ := u0 0 (by omega)
  rw [Nat.add_zero] at e0 f0
  obtain ⟨u1', e1, f1⟩ := u0 1 (by omega)
  obtain ⟨u2', e2, f2⟩ := u0 2 (by omega)
  obtain ⟨u3', e3, f3⟩ := u0 3 (by omega)
  obtain ⟨u4', e4, f4⟩ := u0 4 (by omega)
  obtain ⟨u5', e5, f5⟩ := u0 5 (by omega)
  obtain ⟨u6', e6, f6⟩ := u0 6 (by omega)
  clear u0
  have hqx : q < wc.heap.size := heap_lt HGX.out
  have hwx : w.heap.size < wc.heap.size := by have := HFX.out.size; have := HSW.out; omega
  have hne3 : ¬ wc.heap.size = w.heap.size := by omega
  have hne4 : ¬ w.heap.size = wc.heap.size := by omega
  have hne5 : ¬ q = wc.heap.size := by omega
  have hne6 : ¬ wc.heap.size = q := by omega
  have hgne : ¬ g = q := by
    rintro rfl
    rcases HNEAR.out g rfl with e | e
    · exact hNB g e rfl
    · have : wc.heap.size ≤ g := e
      omega
  have hgne2 : ¬ q = g := fun e => hgne e.symm
  have hq3 : w3.heap[q]? = some (.cells #[.slice a n c, .int .i64 ((s1 : Int) + (s2 : Int))] 61 (0, 0)) := by
    rw [HF3.out.block q hqx (fun e => hNB q e.symm rfl)]
    exact HGX.out
  have q30 : w3.cell? ⟨q, 0, none⟩ = some (.slice a n c) := by rw [cell_row hq3]; rfl
  have z30 := frozen_row hq3 0
  have HQ3 := Lib.hid hq3
  clear hq3
  have HFIN : ∀ W : World, W.heap[q]? = some (.cells #[.slice (some ⟨g, 0, none⟩) (n + 1) c', .int .i64 ((s1 : Int) + (s2 : Int))] 61 (0, 0)) → W.heap[g]? = some (.cells ((((((((cur.toArray.setIfInBounds (n * 7) (.int .i64 k)).setIfInBounds (n * 7 + 1) (.int .i32 r)).setIfInBounds (n * 7 + 2) (.slice sa sn sc)).setIfInBounds (n * 7 + 3) (.bool nt)).setIfInBounds (n * 7 + 4) (.int .i64 l0)).setIfInBounds (n * 7 + 5) (.int .i64 h0)).setIfInBounds (n * 7 + 6) (.slice pa pn pc))) 26 (0, 0)) →
      Fr (fun j => j = q ∨ j = g) w3 W → LsAt W q (ps ++ [x]) ∧ Fr (fun j => q ≤ j) w W := by
    intro W hWq hWg hWf
    have hpl := PsAt.len ps HPS.out
    obtain ⟨cur', hc', hcl', htk'⟩ := set7' cur vs n (by rw [hpl, HN.out]) _ _ _ _ _ _ _ (.int .i64 k) (.int .i32 r) (.slice sa sn sc) (.bool nt) (.int .i64 l0) (.int .i64 h0) (.slice pa pn pc) HTK.out
    rw [hc'] at hWg
    have hgl : g < W.heap.size := heap_lt hWg
    -- nothing of the trees is touched
    have hg0 : ∀ j, j < w.heap.size → j = g → some j = (Value.slice a n c).ownBlock := by
      intro j hj e
      rcases HNEAR.out g rfl with h | h
      · rw [e]; exact h.symm
      · have : wc.heap.size ≤ g := h
        omega
    have hf1 : Fr (fun j => j = q ∨ some j = (Value.slice a n c).ownBlock) w W :=
      (((Fr.of_below (fun j => j = q ∨ some j = (Value.slice a n c).ownBlock) HB1.out).trans HFX.out (fun _ _ h => Or.inl h)).drew.trans HF3.out (fun _ _ h => Or.inr h)).trans hWf (fun j hj h => h.elim Or.inl (fun h => Or.inr (hg0 j hj h)))
    have hkeep : ∀ {F : Nat → Prop} {us : List Value} {xs : List Re}, PsAt F w us xs → (∀ j, F j → q < j ∧ j < w.heap.size ∧ ¬ some j = (Value.slice a n c).ownBlock) → PsAt (Lf W q (some ⟨g, 0, none⟩)) W us xs := by
      intro F us xs hP hF
      have h1 : PsAt F W us xs := PsAt.frF hf1 (fun j hj e => by
        rcases e with e | e
        · have := (hF j hj).1; omega
        · exact (hF j hj).2.2 e) xs hP
      have h2 : ∀ j, F j → Lf W q (some ⟨g, 0, none⟩) j := by
        intro j hj
        refine ⟨(hF j hj).1, ?_, ?_⟩
        · have := hf1.size; have := (hF j hj).2.1; omega
        · rintro ad hadq rfl
          cases hadq
          exact (hF _ hj).2.2 (hg0 _ (hF _ hj).2.1 rfl)
      exact PsAt.mono h2 xs h1
    have hown' := own_of (B := q) (n := n + 1) (cap := c') (size := 7) hWg (by omega) hnc hcm (by rw [List.size_toArray, hcl', HCL.out])
    rw [show (cur'.toArray.toList.take ((n + 1) * 7)) = vs ++ [Value.int .i64 k, .int .i32 r, .slice sa sn sc, .bool nt, .int .i64 l0, .int .i64 h0, .slice pa pn pc] from htk'] at hown'
    rw [show ([Value.int .i64 k, .int .i32 r, .slice sa sn sc, .bool nt, .int .i64 l0, .int .i64 h0, .slice pa pn pc] : List Value) = v from HV.out.symm] at hown'
    refine ⟨⟨_, ps ++ [x], some ⟨g, 0, none⟩, c', ?_, ?_, PsAt.append ps (hkeep HPS.out ?_) (hkeep (PsAt.one HRE.out) ?_), fun _ => rfl, ?_⟩, ?_⟩
    · rw [hWq]
      have e1 : (ps ++ [x]).length = n + 1 := by rw [List.length_append, HN.out]; rfl
      have e2 : min (szs (ps ++ [x])) 401 = s1 + s2 := by rw [szs_append, H1.out]; simp only [szs]; rw [H2.out]; omega
      rw [e1, e2]
      rfl
    · rw [show (ps ++ [x]).length = n + 1 by rw [List.length_append, HN.out]; rfl]
      exact hown'
    · rintro j ⟨h1, h2, h3⟩
      refine ⟨h1, h2, fun e => ?_⟩
      obtain ⟨ad, ha, hj⟩ := (own_ad HOWN.out).2 j e.symm
      exact h3 ad ha hj.symm
    · rintro j ⟨h1, h2⟩
      have := HLT.out
      have := hq0
      refine ⟨by omega, h2, fun e => ?_⟩
      have := HOWN0.out j e.symm
      omega
    · rw [szs_append, H1.out]; simp only [szs]; rw [H2.out]; omega
    · refine hf1.mono (fun j hj h => ?_)
      rcases h with h | h
      · omega
      · exact (HOWN.out.lt j h.symm).1
  have ha := w7a (i := n * 7) HG3.out HQ3.out hgne hgne2 (.int .i64 k) (.int .i32 r) (.slice sa sn sc) (.bool nt) (.int .i64 l0) (.int .i64 h0) (.slice pa pn pc) (.slice (some ⟨g, 0, none⟩) (n + 1) c')
  have hb := w7b (i := n * 7) HG3.out HQ3.out hgne hgne2 (.int .i64 k) (.int .i32 r) (.slice sa sn sc) (.bool nt) (.int .i64 l0) (.int .i64 h0) (.slice pa pn pc) (.slice (some ⟨g, 0, none⟩) (n + 1) c')
  have HA := Lib.hid (HFIN _ ha.1 ha.2.1 ha.2.2)
  have HB := Lib.hid (HFIN _ hb.1 hb.2.1 hb.2.2)
  clear HFIN ha hb
  have hnn : (n : Int) < ((n : Int) + 1) := by omega
  go_wp2_with fail
  go_region_law (first
    | (refine step_append_run rfl (.tmp 23) (.tmp 27) _ _ rfl _ _ (by simp [Act.eval, Act.put]) (by simp [Act.eval, Act.put]) (HRUN.out _) ?_))
  all_goals go_wp2
  all_goals go_end0
  all_goals first | (with_reducible exact ⟨rfl, HA.out⟩) | (with_reducible exact ⟨rfl, HB.out⟩)
end Go.Proofs.Ytkjiobbkbhmijaa.U
