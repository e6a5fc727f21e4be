/-
  The program's list: joined.
-/
import Derived.Test.YtkjiobbkbhmijaaRAdd
namespace Go.Proofs.Ytkjiobbkbhmijaa.U
open Go.RowKit
set_option linter.unusedVariables false
set_option linter.unusedSimpArgs false
set_option maxRecDepth 100000

theorem joinR_sz (k : Int) (hk : k ≠ 10) (acc : List Re) : (joinR k acc).sz = match acc with | [] => 1 | [x] => x.sz | x :: y :: xs => 1 + szs (x :: y :: xs) := by
  match acc with
  | [] => rfl
  | [x] => rfl
  | x :: y :: xs => simp [joinR, Re.sz, hk]
theorem joinR_big (k : Int) (hk : k ≠ 10) (acc : List Re) (h : 401 ≤ szs acc) : 401 ≤ (joinR k acc).sz := by
  rw [joinR_sz k hk]
  match acc with
  | [] => simp [szs] at h
  | [x] => simp [szs] at h; exact h
  | x :: y :: xs => show 401 ≤ 1 + szs (x :: y :: xs); omega

/-- sized, in the words of parts -/
theorem sized_at (F : Nat → Prop) (x : Re) (k r : Int) (sa : Option Addr) (sn sc : Nat) (nt : Bool) (lo hi : Int) (pa : Option Addr) (pn pc : Nat) (s : Int) (hs : s = ((min x.sz 401 : Nat) : Int) ∨ (401 ≤ s ∧ 401 ≤ x.sz)) (w0 w : World) (hx : x.sz ≤ 400 → ReAt F w0 [.int .i64 k, .int .i32 r, .slice sa sn sc, .bool nt, .int .i64 lo, .int .i64 hi, .slice pa pn pc] x) :
    Calls Try.prog 46 #[.agg #[.int .i64 k, .int .i32 r, .slice sa sn sc, .bool nt, .int .i64 lo, .int .i64 hi, .slice pa pn pc], .int .i64 s] w fun e w' => ∃ v, e = .returned (ptV v x) ∧ Hid (PtAt F w0 v x) ∧ Below w.heap.size w w' := by
  by_cases hb : x.sz ≤ 400
  · have hs1 : s = (x.sz : Nat) := by omega
    refine (sized_small k r sa sn sc nt lo hi pa pn pc s (by omega) w).mono ?_
    rintro e w' ⟨rfl, h⟩
    refine ⟨_, ?_, ⟨fun _ => hx hb, fun h => by omega⟩, h⟩
    unfold ptV
    rw [Nat.min_eq_left (by omega), hs1]
    rfl
  · refine (sized_big k r sa sn sc nt lo hi pa pn pc s (by omega) w).mono ?_
    rintro e w' ⟨rfl, h⟩
    refine ⟨zero7, ?_, ⟨fun h => by omega, fun _ => rfl⟩, h⟩
    unfold ptV
    rw [Nat.min_eq_right (by omega)]
    rfl
def Jn (w : World) (q : Nat) (y : Re) (e : Ending) (w' : World) : Prop := ∃ v, e = .returned (ptV v y) ∧ PtAt (fun j => q < j ∧ j < w'.heap.size) w' v y ∧ Below w.heap.size w w'

set_option maxHeartbeats 2000000 in
theorem joined_nil (q : Nat) (k : Int) (w : World) (h : LsAt w q []) :
    Calls Try.prog 34 #[.pointer (some ⟨q, 0, none⟩), .int .i64 k] w (Jn w q (joinR k [])) := by
  have hq := h.lt
  obtain ⟨vs, ps, a, c, hg, hown, hps, hacc, hss⟩ := h
  have hp := hacc (by simp [szs])
  obtain ⟨w1, hw1⟩ : ∃ w1, w.alloc (.cells #[.int .i64 0, .int .i32 0, .slice none 0 0, .bool false, .int .i64 0, .int .i64 0, .slice none 0 0, .int .i64 0] 55) = w1 := ⟨_, rfl⟩
  have hg1 : w1.heap[w.heap.size]? = some (.cells #[.int .i64 0, .int .i32 0, .slice none 0 0, .bool false, .int .i64 0, .int .i64 0, .slice none 0 0, .int .i64 0] 55 (0, 0)) := by rw [← hw1]; exact heap_alloc_new w _
  have hb1 : Below w.heap.size w w1 := by rw [← hw1]; exact (Below.refl _ w).alloc (Nat.le_refl _) _
  have hsz : w.heap.size < w1.heap.size := heap_lt hg1
  have hgq := (hb1.block q hq).trans hg
  have q1 : w1.cell? ⟨q, 1, none⟩ = some (.int .i64 0) := by rw [cell_row hgq]; rfl
  have HG := Lib.hid hg1
  have HW := Lib.hid hw1
  clear hg1 hw1 hg hown hps hacc hss hp hgq
  have hfin : ∀ e w', e = .returned (.agg #[.int .i64 0, .int .i32 0, .slice none 0 0, .bool false, .int .i64 0, .int .i64 0, .slice none 0 0, .int .i64 1]) → Below w.heap.size w w' → Jn w q (joinR k []) e w' := by
    rintro e w' rfl hb
    exact ⟨zero7, rfl, ⟨fun _ => ReAt.zero _ _, fun h => by simp [joinR, Re.one, Re.sz, szs] at h⟩, hb⟩
  have HFIN := Lib.hid hfin
  clear hfin
  go_enter Try.func34, Try.ntmps34
  go_upto_region 1 with fail
  rw [HW.out]
  go_wp2_with (go_at_call 41; refine (simple_any 0 0 none 0 0 false 0 0 none 0 0 _).mono ?_; rintro e w2 ⟨rfl, hb2⟩; obtain ⟨p0, p1, p2, p3, p4, p5, p6, p7, z0, z1, z2, z3, z4, z5, z6, z7⟩ := row8 ((hb2.block _ hsz).trans HG.out))
  refine bodyPost_ret (v := .agg #[.int .i64 0, .int .i32 0, .slice none 0 0, .bool false, .int .i64 0, .int .i64 0, .slice none 0 0, .int .i64 1]) ?_ rfl (HFIN.out _ _ rfl ?_)
  · rw [results_cell1 rfl]
    go_simp
  · have := hb1.trans (hb2.mono hb1.size)
    (repeat' (refine setCell_below ?_ _ _ _ ?_)) <;> first | assumption | exact Nat.le_refl _

set_option maxHeartbeats 4000000 in
/-- of several: some of them are there, or all are too large -/
theorem joined_some (q : Nat) (k : Int) (hk : k ≠ 10) (acc : List Re) (w : World) (h : LsAt w q acc) (hne : acc ≠ []) :
    Calls Try.prog 34 #[.pointer (some ⟨q, 0, none⟩), .int .i64 k] w (Jn w q (joinR k acc)) := by
  have hq := h.lt
  obtain ⟨vs, ps, a, c, hg, hown, hps, hacc, hss⟩ := h
  obtain ⟨s, hs⟩ : ∃ s, min (szs acc) 401 = s := ⟨_, rfl⟩
  rw [hs] at hg
  have hs1 : 1 ≤ s := by
    have := len_szs acc
    have : 0 < acc.length := List.length_pos_iff.2 hne
    omega
  have hs2 : s ≤ 401 := by omega
  obtain ⟨w1, hw1⟩ : ∃ w1, w.alloc (.cells #[.int .i64 0, .int .i32 0, .slice none 0 0, .bool false, .int .i64 0, .int .i64 0, .slice none 0 0, .int .i64 0] 55) = w1 := ⟨_, rfl⟩
  have hg1 : w1.heap[w.heap.size]? = some (.cells #[.int .i64 0, .int .i32 0, .slice none 0 0, .bool false, .int .i64 0, .int .i64 0, .slice none 0 0, .int .i64 0] 55 (0, 0)) := by rw [← hw1]; exact heap_alloc_new w _
  have hb1 : Below w.heap.size w w1 := by rw [← hw1]; exact (Below.refl _ w).alloc (Nat.le_refl _) _
  have hsz : w.heap.size < w1.heap.size := heap_lt hg1
  have hgq := (hb1.block q hq).trans hg
  have q0 : w1.cell? ⟨q, 0, none⟩ = some (.slice a ps.length c) := by rw [cell_row hgq]; rfl
  have q1 : w1.cell? ⟨q, 1, none⟩ = some (.int .i64 (s : Nat)) := by rw [cell_row hgq]; rfl
  have hrc := Rc.own hown
  have hinF : InF (fun j => q < j ∧ j < w.heap.size) a ps.length := InF.own hown (fun j hj => ⟨by have := (hown.lt j hj).1; have := row_block_apart hown hg (by decide) hj; omega, (hown.lt j hj).2⟩)
  have hps2 : PsAt (fun j => q < j ∧ j < w.heap.size) w vs ps := PsAt.mono (fun j hj => ⟨hj.1, hj.2.1⟩) ps hps
  have g1 : ((s : Int) == 0) = false := by simp; omega
  have hfin : ∀ e w' v, e = .returned (ptV v (joinR k acc)) → PtAt (fun j => q < j ∧ j < w.heap.size) w v (joinR k acc) → Below w.heap.size w w' → Jn w q (joinR k acc) e w' := by
    rintro e w' v rfl hp hb
    exact ⟨v, rfl, (hp.frF (Fr.of_below (fun _ => False) hb) (fun _ _ h => h)).mono (fun j hj => ⟨hj.1, by have := hb.size; omega⟩), hb⟩
  have HFIN := Lib.hid hfin
  have HG := Lib.hid hg1
  have HW := Lib.hid hw1
  clear hg1 hw1 hfin hg hps hgq
  by_cases h1 : ps.length = 1
  · obtain ⟨y, rfl⟩ : ∃ y, ps = [y] := by
      match ps, h1 with
      | [y], _ => exact ⟨y, rfl⟩
    unfold PsAt at hps2
    obtain ⟨v, vs', rfl, hy, hr⟩ := hps2
    unfold PsAt at hr
    subst hr
    rw [List.append_nil] at hrc
    obtain ⟨k3, r3, sa3, sn3, sc3, nt3, l3, h3, pa3, pn3, pc3, hv3⟩ := hy.rev7
    obtain ⟨b, off, rfl, hbl, hcell⟩ := hrc.at_ (by simp)
    have hbl1 : b < w1.heap.size := by omega
    have hat : ∀ j u, v[j]? = some u → w1.cell? ⟨b, off + j, none⟩ = some u := fun j u hu => (hb1.cell (p := ⟨b, off + j, none⟩) hbl).trans (hcell j u hu)
    have e0 := hat 0 _ (by rw [hv3]; rfl)
    have e1 := hat 1 _ (by rw [hv3]; rfl)
    have e2 := hat 2 _ (by rw [hv3]; rfl)
    have e3 := hat 3 _ (by rw [hv3]; rfl)
    have e4 := hat 4 _ (by rw [hv3]; rfl)
    have e5 := hat 5 _ (by rw [hv3]; rfl)
    have e6 := hat 6 _ (by rw [hv3]; rfl)
    rw [Nat.add_zero] at e0
    have hS : (s : Int) = ((min (joinR k acc).sz 401 : Nat) : Int) ∨ (401 ≤ (s : Int) ∧ 401 ≤ (joinR k acc).sz) := by
      by_cases hb : szs acc ≤ 400
      · have := hacc hb
        subst this
        left
        rw [joinR_sz k hk]
        simp only [szs] at hs
        show _ = ((min y.sz 401 : Nat) : Int)
        omega
      · exact Or.inr ⟨by omega, joinR_big k hk acc (by omega)⟩
    have hX : (joinR k acc).sz ≤ 400 → ReAt (fun j => q < j ∧ j < w.heap.size) w [.int .i64 k3, .int .i32 r3, .slice sa3 sn3 sc3, .bool nt3, .int .i64 l3, .int .i64 h3, .slice pa3 pn3 pc3] (joinR k acc) := by
      intro hle
      by_cases hb : szs acc ≤ 400
      · have := hacc hb
        subst this
        rw [hv3] at hy
        exact hy
      · have := joinR_big k hk acc (by omega)
        omega
    have HS := Lib.hid hS
    have HX := Lib.hid hX
    rw [List.length_singleton] at q0
    have hc1 : 1 ≤ c := hown.2.elim (fun h => by have := congrArg (fun v => match v with | Value.slice _ n _ => n | _ => 0) h.1; simp at this) (fun ⟨_, cap, _, h, _, _, hn, _⟩ => by simp only [Value.slice.injEq] at h; have := h.2.2; simp at hn; omega)
    clear hS hX hat hcell hy hinF hrc hown hacc hss h1 hs hv3 hne
    go_enter Try.func34, Try.ntmps34
    go_upto_region 1 with fail
    rw [HW.out]
    go_upto_region 4 with fail
    go_still_tail 10, (by kernel_rfl)
    change wpList _ _ _ _ _ w1.drew
    go_wp2_with (go_at_call 46; refine (sized_at (fun j => q < j ∧ j < w.heap.size) (joinR k acc) k3 r3 sa3 sn3 sc3 nt3 l3 h3 pa3 pn3 pc3 _ HS.out w w1.drew HX.out).mono ?_; rintro e w2 ⟨v2, rfl, H2, hb2⟩; obtain ⟨k4, r4, sa4, sn4, sc4, nt4, l4, h4, pa4, pn4, pc4, hv4⟩ := H2.out.rev7; have hpt : ptV v2 (joinR k acc) = .agg #[.int .i64 k4, .int .i32 r4, .slice sa4 sn4 sc4, .bool nt4, .int .i64 l4, .int .i64 h4, .slice pa4 pn4 pc4, .int .i64 (min (joinR k acc).sz 401 : Nat)] := (by (unfold ptV; rw [hv4]; rfl)); rw [hpt]; have HPT := Lib.hid hpt; clear hpt hv4; obtain ⟨p0, p1, p2, p3, p4, p5, p6, p7, z0, z1, z2, z3, z4, z5, z6, z7⟩ := row8 ((hb2.block _ hsz).trans HG.out))
    refine bodyPost_ret (v := .agg #[.int .i64 k4, .int .i32 r4, .slice sa4 sn4 sc4, .bool nt4, .int .i64 l4, .int .i64 h4, .slice pa4 pn4 pc4, .int .i64 (min (joinR k acc).sz 401 : Nat)]) ?_ rfl (HFIN.out _ _ v2 (by rw [HPT.out]) H2.out ?_)
    · rw [results_cell1 rfl]
      go_simp
    · have := hb1.drew.trans (hb2.mono hb1.size)
      (repeat' (refine setCell_below ?_ _ _ _ ?_)) <;> first | assumption | exact Nat.le_refl _
  · obtain ⟨n, hn⟩ : ∃ n, ps.length = n := ⟨_, rfl⟩
    have hS : 1 + (s : Int) = ((min (joinR k acc).sz 401 : Nat) : Int) ∨ (401 ≤ 1 + (s : Int) ∧ 401 ≤ (joinR k acc).sz) := by
      by_cases hb : szs acc ≤ 400
      · have := hacc hb
        subst this
        rw [joinR_sz k hk]
        match ps, hne, h1 with
        | x :: y :: xs, _, _ =>
          show _ = ((min (1 + szs (x :: y :: xs)) 401 : Nat) : Int) ∨ (_ ∧ 401 ≤ 1 + szs (x :: y :: xs))
          omega
      · exact Or.inr ⟨by omega, joinR_big k hk acc (by omega)⟩
    have hX : (joinR k acc).sz ≤ 400 → ReAt (fun j => q < j ∧ j < w.heap.size) w [.int .i64 k, .int .i32 0, .slice none 0 0, .bool false, .int .i64 0, .int .i64 0, .slice a n c] (joinR k acc) := by
      intro hle
      by_cases hb : szs acc ≤ 400
      · have := hacc hb
        subst this
        subst hn
        match ps, hne, h1, hrc, hinF, hps2 with
        | x :: y :: xs, _, _, hrc, hinF, hps2 =>
          show ReAt _ _ _ (.mk k 0 [] false 0 0 (x :: y :: xs))
          unfold ReAt
          exact ⟨none, 0, a, c, rfl, Rc.none0 _ _, InF.zero _ _, vs, hrc, hinF, hps2⟩
      · have := joinR_big k hk acc (by omega)
        omega
    have g2 : ((n : Int) == 1) = false := by simp; omega
    have hnb : n ≤ 400 := by have := len_szs ps; omega
    have HS := Lib.hid hS
    have HX := Lib.hid hX
    rw [hn] at q0
    clear hS hX hinF hrc hown hacc hss h1 hs hne hps2 hn
    go_enter Try.func34, Try.ntmps34
    go_upto_region 1 with fail
    rw [HW.out]
    go_upto_region 5 with fail
    go_still_tail 11, (by kernel_rfl)
    change wpList _ _ _ _ _ w1.drew
    go_wp2_with (go_at_call 46; refine (sized_at (fun j => q < j ∧ j < w.heap.size) (joinR k acc) k 0 none 0 0 false 0 0 a n c _ HS.out w w1.drew HX.out).mono ?_; rintro e w2 ⟨v2, rfl, H2, hb2⟩; obtain ⟨k4, r4, sa4, sn4, sc4, nt4, l4, h4, pa4, pn4, pc4, hv4⟩ := H2.out.rev7; have hpt : ptV v2 (joinR k acc) = .agg #[.int .i64 k4, .int .i32 r4, .slice sa4 sn4 sc4, .bool nt4, .int .i64 l4, .int .i64 h4, .slice pa4 pn4 pc4, .int .i64 (min (joinR k acc).sz 401 : Nat)] := (by (unfold ptV; rw [hv4]; rfl)); rw [hpt]; have HPT := Lib.hid hpt; clear hpt hv4; obtain ⟨p0, p1, p2, p3, p4, p5, p6, p7, z0, z1, z2, z3, z4, z5, z6, z7⟩ := row8 ((hb2.block _ hsz).trans HG.out))
    refine bodyPost_ret (v := .agg #[.int .i64 k4, .int .i32 r4, .slice sa4 sn4 sc4, .bool nt4, .int .i64 l4, .int .i64 h4, .slice pa4 pn4 pc4, .int .i64 (min (joinR k acc).sz 401 : Nat)]) ?_ rfl (HFIN.out _ _ v2 (by rw [HPT.out]) H2.out ?_)
    · rw [results_cell1 rfl]
      go_simp
    · have := hb1.drew.trans (hb2.mono hb1.size)
      (repeat' (refine setCell_below ?_ _ _ _ ?_)) <;> first | assumption | exact Nat.le_refl _
theorem joined_any (q : Nat) (k : Int) (hk : k ≠ 10) (acc : List Re) (w : World) (h : LsAt w q acc) :
    Calls Try.prog 34 #[.pointer (some ⟨q, 0, none⟩), .int .i64 k] w (Jn w q (joinR k acc)) := by
  by_cases hne : acc = []
  · subst hne; exact joined_nil q k w h
  · exact joined_some q k hk acc w h hne
end Go.Proofs.Ytkjiobbkbhmijaa.U
