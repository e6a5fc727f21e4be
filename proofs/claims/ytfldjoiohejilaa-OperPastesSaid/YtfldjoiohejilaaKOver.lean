/-
  The program's Over.
-/
import Derived.Test.YtfldjoiohejilaaKPasBS
import Derived.Test.YtfldjoiohejilaaJLaws1
namespace Go.Proofs.Ytfldjoiohejilaa.U
open Go.RowKit
set_option linter.unusedVariables false
set_option linter.unusedSimpArgs false
set_option maxRecDepth 100000

/-- Over, of lines that are not too many -/
def OverK (f : FuncId) : Prop := ∀ (F : Nat → Prop) (a : Option Addr) (n c : Nat) (L : List (List Int)) (p : Po) (r m : Int) (w : World), RdL F w a n c L → sizeN (lens L) ≤ 65536 → i64p p → (Lit.int .i32 r).wf = true → i64b m →
  Calls Try.prog f #[.slice a n c, p.v, .int .i32 r, .int .i64 m] w fun e w' => ∃ ra k rc, e = .returned (.tuple #[.slice ra k rc, plV (overR L p r m).2.1, .int .i64 (overR L p r m).2.2]) ∧ RdL (fun x => w.heap.size ≤ x) w' ra k rc (overR L p r m).1 ∧ Below w.heap.size w w'
/-- Over's boxes -/
structure OvS (w : World) (b : Nat) (u : Po) (W : World) : Prop where
  hb : Below b w W
  p : W.heap[b]? = some (.cells #[.int .i64 u.l, .int .i64 u.c] 24 (0, 0))
  z : W.heap[b + 1]? = some (.cells #[.int .i64 0, .int .i64 0] 24 (0, 0))
theorem OvS.below {w W W' : World} {b : Nat} {u : Po} (h : OvS w b u W) (hw : w.heap.size = b) (hb : Below W.heap.size W W') : OvS w b u W' :=
  ⟨h.hb.trans (hb.mono (by have := h.hb.size; omega)), (hb.block _ (heap_lt h.p)).trans h.p, (hb.block _ (heap_lt h.z)).trans h.z⟩
theorem ovs_new (w : World) (u : Po) : OvS w w.heap.size u ((w.alloc (.cells #[.int .i64 u.l, .int .i64 u.c] 24)).alloc (.cells #[.int .i64 0, .int .i64 0] 24)) := by
  obtain ⟨g1, g2⟩ := two_new w #[.int .i64 u.l, .int .i64 u.c] #[.int .i64 0, .int .i64 0] 24 24 _ (Below.refl _ _)
  exact ⟨((Below.refl _ _).alloc (Nat.le_refl _) _).alloc (by simp) _, g1, g2⟩
theorem OvS.set {w W : World} {b : Nat} {u : Po} (h : OvS w b u W) (v : Po) : OvS w b v ((W.setCell ⟨b, 0, none⟩ (.int .i64 v.l)).setCell ⟨b, 1, none⟩ (.int .i64 v.c)) := by
  have hf : Fr (fun z => z = b) W ((W.setCell ⟨b, 0, none⟩ (.int .i64 v.l)).setCell ⟨b, 1, none⟩ (.int .i64 v.c)) := ((Fr.refl (fun z => z = b) W).setCell ⟨b, 0, none⟩ _ (fun _ => rfl)).setCell ⟨b, 1, none⟩ _ (fun _ => rfl)
  exact ⟨setCell_below (setCell_below h.hb _ _ _ (by omega)) _ _ _ (by omega), heap_set (heap_set h.p 0 _) 1 _, (hf.block _ (heap_lt h.z) (by omega)).trans h.z⟩
def OvC (b b1 : Nat) (u : Po) (W : World) : Prop := W.cell? ⟨b, 0, none⟩ = some (.int .i64 u.l) ∧ W.cell? ⟨b, 1, none⟩ = some (.int .i64 u.c) ∧ W.frozen? ⟨b, 0, none⟩ = false ∧ W.frozen? ⟨b, 1, none⟩ = false ∧ b < W.heap.size ∧ ArP b1 W
theorem OvS.cells {w W : World} {b b1 : Nat} {u : Po} (h : OvS w b u W) (h1 : b + 1 = b1) : OvC b b1 u W := by
  subst h1
  exact ⟨cell_row h.p 0, cell_row h.p 1, frozen_row h.p 0, frozen_row h.p 1, heap_lt h.p, ArP.of h.z⟩
/-- two rows of one's own, laid as lines -/
theorem rdl_two {B : Nat} {W : World} {ra rb : Option Addr} {m rc k rd : Nat} {X Y : List Int} (ho : W.ownsRow B 21 1 (.slice ra m rc) m (ints X)) (hp : W.ownsRow B 21 1 (.slice rb k rd) k (ints Y)) (hB : B ≤ W.heap.size) (hw : ∀ y ∈ X, (Lit.int .i32 y).wf = true) (hv : ∀ y ∈ Y, (Lit.int .i32 y).wf = true) :
    RdL (fun x => B ≤ x) (W.alloc (.cells #[.slice ra m rc, .slice rb k rd] 35)) (some ⟨W.heap.size, 0, none⟩) 2 2 [X, Y] := by
  have hrd := own_rd ho hw
  have hrp := own_rd hp hv
  refine ⟨[.slice ra m rc, .slice rb k rd], ?_, ?_, ?_⟩
  · refine ⟨rfl, Nat.le_refl _, by unfold maxLen; omega, fun e => (by cases e), fun _ => ⟨W.heap.size, 0, rfl, by simp, fun j u hu => ?_⟩⟩
    rw [cell_row (heap_alloc_new W _)]
    simpa using hu
  · intro _ ad e
    cases e
    exact hB
  · exact (RowsAt.one (hrd.alloc _) (InF.own ho (fun z hz => (ho.lt z hz).1))).append (RowsAt.one (hrp.alloc _) (InF.own hp (fun z hz => (hp.lt z hz).1)))
theorem cellA {W : World} {p : Addr} {v : Value} (h : W.cell? p = some v) (o : Obj) : (W.alloc o).cell? p = some v := ((bal W o).cell (p := p) (block_lt_of_cell h)).trans h
theorem cellD {W : World} {p : Addr} {v : Value} (h : W.cell? p = some v) : W.drew.cell? p = some v := h
theorem overM_size {L : List (List Int)} {q : Pl} {r : Int} {N : Nat} (hq : q.1 < L.length) (hN : 1 ≤ N) (hfit : q.2 + N ≤ (lnL L q.1).length) : sizeN (lens (overM L q r N)) ≤ sizeN (lens L) := by
  have h3 := size_three L hq
  unfold overM
  rw [lens_append, lens_append, sizeN_append, sizeN_append, h3]
  by_cases hr : r = 10
  · rw [if_pos hr]
    simp only [lens, List.map_cons, List.map_nil, sizeN_cons, sizeN_nil, List.length_take, List.length_drop]
    omega
  · rw [if_neg hr]
    unfold overX
    simp only [lens, List.map_cons, List.map_nil, sizeN_cons, sizeN_nil, List.length_append, List.length_take, List.length_drop, List.length_replicate]
    omega
set_option maxHeartbeats 4000000 in
theorem kover_range (a : Option Addr) (c : Nat) (p : Po) (r m : Int) (w : World) :
    Calls Try.prog 30 #[.slice a 0 c, p.v, .int .i32 r, .int .i64 m] w fun e w' => e = .returned (.tuple #[.slice none 0 0, plV (0, 0), .int .i64 2]) ∧ Below w.heap.size w w' := by
  obtain ⟨wb, hwb⟩ : ∃ wb, (w.alloc (.cells #[.int .i64 p.l, .int .i64 p.c] 24)).alloc (.cells #[.int .i64 0, .int .i64 0] 24) = wb := ⟨_, rfl⟩
  have hP := ovs_new w p
  rw [hwb] at hP
  obtain ⟨b, hbe⟩ : ∃ b, w.heap.size = b := ⟨_, rfl⟩
  obtain ⟨b1, hb1⟩ : ∃ b1, b + 1 = b1 := ⟨_, rfl⟩
  have HBE := Lib.hid hbe
  have HB1 := Lib.hid hb1
  have HW := Lib.hid hwb
  rw [hbe] at hP
  obtain ⟨x0, x1, z0, z1, xl, ⟨u0, u1, u2, u3, u4⟩⟩ := hP.cells hb1
  have HB : Hid (Below b w wb) := hP.hb
  have h01 : b ≤ b1 := by omega
  rw [hbe]
  clear hwb hP hbe hb1
  show Calls Try.prog _ #[_, .agg #[.int .i64 p.l, .int .i64 p.c], _, _] w _
  go_enter Try.func30, Try.ntmps30
  go_upto_region 1 with fail
  rw [HBE.out, HW.out, HB1.out]
  go_wp2_with fail
  refine bodyPost_ret (v := .tuple #[.slice none 0 0, .agg #[.int .i64 0, .int .i64 0], .int .i64 2]) ?_ rfl ⟨rfl, ?_⟩
  · rw [results_tctK rfl]
    go_simp
    first | rfl | done
  · (repeat' (first | (with_reducible exact HB.out) | (with_reducible refine setCell_below ?_ _ _ _ ?_) | omega))
set_option maxHeartbeats 8000000 in
theorem kover_ok (F : Nat → Prop) (a : Option Addr) (n c : Nat) (L : List (List Int)) (p : Po) (r m : Int) (w : World) (h : RdL F w a n c L) (hs : sizeN (lens L) ≤ 65536) (hL0 : L ≠ []) (hp : i64p p) (hr : (Lit.int .i32 r).wf = true) (hm : i64b m) :
    Calls Try.prog 30 #[.slice a n c, p.v, .int .i32 r, .int .i64 m] w fun e w' => ∃ ra k rc, e = .returned (.tuple #[.slice ra k rc, plV (overR L p r m).2.1, .int .i64 (overR L p r m).2.2]) ∧ RdL (fun x => w.heap.size ≤ x) w' ra k rc (overR L p r m).1 ∧ Below w.heap.size w w' := by
  have hl := h.len
  have hok : okP L (clipZ L p) := clipP_ok hL0 _ _
  obtain ⟨N, hN⟩ : ∃ N : Nat, max m 1 = (N : Int) := ⟨(max m 1).toNat, by omega⟩
  have hN1 : 1 ≤ N := by omega
  obtain ⟨lb, lo, rfl, hlb, -, hrow⟩ := h.at_ (by have := hok.1; omega)
  have hcl := fun (W : World) (hW : Below w.heap.size w W) => wclip_any F _ n c L p W (h.below hW) hp
  have hov : overR L p r m = if ((lnL L (clipZ L p).1).length : Int) - ((clipZ L p).2 : Int) < (N : Int) then ([], (0, 0), 2) else (overM L (clipZ L p) r N, (if r = 10 then ((clipZ L p).1 + 1, 0) else ((clipZ L p).1, (clipZ L p).2 + N - 1)), 0) := by
    unfold overR
    rw [if_neg hL0, show max 1 m = (N : Int) by omega, Int.toNat_natCast]
  have hx : L[(clipZ L p).1]? = some (lnL L (clipZ L p).1) := by unfold lnL; rw [List.getD_eq_getElem?_getD, List.getElem?_eq_getElem hok.1]; rfl
  obtain ⟨xa, xc, hcx, hrdx, -⟩ := hrow _ _ hx
  have hxl := sizeN_mem (List.mem_map.2 ⟨_, List.mem_of_getElem? hx, rfl⟩ : List.length (lnL L (clipZ L p).1) ∈ List.map List.length L)
  have hxl2 : (lnL L (clipZ L p).1).length ≤ 65536 := by unfold lens at hs; omega
  have hcnt := size_count L
  have hovs := overM_size (r := r) (N := N) hok.1 hN1
  rw [hov]
  unfold clipZ at hcx hrdx hxl2 hok hovs ⊢
  obtain ⟨⟨q1, q2⟩, hq⟩ : ∃ q, clipP L p.l p.c = q := ⟨_, rfl⟩
  rw [hq] at hcx hrdx hxl2 hok hovs hcl ⊢
  simp only at hcx hrdx hxl2 hovs ⊢
  obtain ⟨x, hxx⟩ : ∃ x, lnL L q1 = x := ⟨_, rfl⟩
  obtain ⟨y, hy⟩ : ∃ y, x.length = y := ⟨_, rfl⟩
  have hq1n : q1 < n := by have := hok.1; simp only at this; omega
  have hq2y : q2 ≤ 65536 := by have := hok.2; simp only at this; omega
  rw [hxx] at hcx hrdx hxl2 hovs ⊢
  rw [hy] at hcx hrdx hxl2 hovs ⊢
  obtain ⟨wb, hwb⟩ : ∃ wb, (w.alloc (.cells #[.int .i64 p.l, .int .i64 p.c] 24)).alloc (.cells #[.int .i64 0, .int .i64 0] 24) = wb := ⟨_, rfl⟩
  have hP := ovs_new w p
  rw [hwb] at hP
  obtain ⟨b, hbe⟩ : ∃ b, w.heap.size = b := ⟨_, rfl⟩
  obtain ⟨b1, hb1⟩ : ∃ b1, b + 1 = b1 := ⟨_, rfl⟩
  rw [hbe] at hP
  have HCLIP : Hid (∀ W, W = wb → Calls Try.prog 53 #[.slice (some ⟨lb, lo, none⟩) n c, .agg #[.int .i64 p.l, .int .i64 p.c]] W fun e w' => e = .returned (.agg #[.int .i64 (q1 : Nat), .int .i64 (q2 : Nat)]) ∧ OvC b b1 p w' ∧ Hid (OvS w b p w')) := by
    rintro W rfl
    have hbW := hP.hb
    rw [← hbe] at hbW
    refine (hcl W hbW).mono ?_
    rintro e w' ⟨rfl, hb⟩
    have h2 := hP.below hbe hb
    exact ⟨rfl, h2.cells hb1, h2⟩
  have HROW : Hid (∀ W u, OvS w b u W → W.cell? ⟨lb, lo + q1, none⟩ = some (.slice xa y xc)) := by
    intro W u hW
    have hbW := hW.hb
    rw [← hbe] at hbW
    exact (hbW.cell (p := ⟨lb, lo + q1, none⟩) hlb).trans hcx
  have HBE := Lib.hid hbe
  have HB1 := Lib.hid hb1
  have HW := Lib.hid hwb
  obtain ⟨x0, x1, z0, z1, xl, ⟨u0, u1, u2, u3, u4⟩⟩ := hP.cells hb1
  have hmx := hN
  have hNb : N ≤ 9223372036854775807 := by have := hm.1; have := hm.2; omega
  have hn6 : n ≤ 65536 := by omega
  have hn0i : ¬ (n : Int) = 0 := by omega
  have hq1i : (q1 : Int) < (n : Int) := by omega
  have hq10 : (0 : Int) ≤ (q1 : Int) := by omega
  unfold OvC at HCLIP
  show Calls Try.prog _ #[_, .agg #[.int .i64 p.l, .int .i64 p.c], _, _] w _
  by_cases hfit : (y : Int) - (q2 : Int) < (N : Int)
  · rw [if_pos hfit]
    rw [hbe]
    clear h hs hL0 hp hr hm hl hok hN hlb hrow hcl hov hx hrdx hxl hcnt hovs hq hxx hy hwb hP hbe hb1
    go_enter Try.func30, Try.ntmps30
    go_upto_region 1 with fail
    rw [HBE.out, HW.out, HB1.out]
    go_upto_region 4 with (go_at_call 53; (with_reducible refine (HCLIP.out _ rfl).mono ?_); rintro e w2 ⟨rfl, ⟨t0, t1, t2, t3, tl, ⟨r0, r1, r2, r3, r4⟩⟩, HP2⟩)
    have HP3 := Lib.hid (HP2.out.set ⟨(q1 : Nat), (q2 : Nat)⟩)
    obtain ⟨w3, hw3⟩ : ∃ w3, (w2.setCell ⟨b, 0, none⟩ (.int .i64 (q1 : Nat))).setCell ⟨b, 1, none⟩ (.int .i64 (q2 : Nat)) = w3 := ⟨_, rfl⟩
    simp only at HP3
    rw [hw3] at HP3 ⊢
    clear hw3 t0 t1 t2 t3 tl r0 r1 r2 r3 r4 HP2 x0 x1 z0 z1 xl u0 u1 u2 u3 u4
    obtain ⟨x0, x1, z0, z1, xl, ⟨u0, u1, u2, u3, u4⟩⟩ := HP3.out.cells HB1.out
    simp only at x0 x1
    have hrow3 := HROW.out _ _ HP3.out
    have hfd : decide ((y : Int) - (q2 : Int) < (N : Int)) = true := decide_eq_true hfit
    have h01 : b ≤ b1 := by have := HB1.out; omega
    go_wp2_with fail
    refine bodyPost_ret (v := .tuple #[.slice none 0 0, .agg #[.int .i64 0, .int .i64 0], .int .i64 2]) ?_ rfl ⟨none, 0, 0, rfl, RdL.none0 _ _, ?_⟩
    · rw [results_tctK rfl]
      go_simp
      first | rfl | done
    · (repeat' (first | (with_reducible exact HP3.out.hb) | (with_reducible refine setCell_below ?_ _ _ _ ?_) | omega))
  · rw [if_neg hfit]
    have hfitN : q2 + N ≤ y := by omega
    have hN6 : N ≤ 65536 := by omega
    have hovs2 := hovs hfitN
    have hyc : y ≤ xc := hrdx.2.1
    have hxw := hrdx.2.2.2.1
    obtain ⟨ad, rfl⟩ : ∃ ad, xa = some ad := by
      cases xa with
      | none => have := hrdx.2.2.2.2.1 rfl; omega
      | some ad => exact ⟨ad, rfl⟩
    obtain ⟨K, hK⟩ : ∃ K, q2 + N = K := ⟨_, rfl⟩
    have hKi : (q2 : Int) + (N : Int) = (K : Int) := by omega
    obtain ⟨M, hM⟩ : ∃ M, overM L (q1, q2) r N = M := ⟨_, rfl⟩
    obtain ⟨⟨z1', z2'⟩, hZ⟩ : ∃ Z : Pl, (if r = 10 then (q1 + 1, 0) else (q1, q2 + N - 1)) = Z := ⟨_, rfl⟩
    rw [hM, hZ]
    rw [hM] at hovs2
    have HSET : Hid (∀ (W : World) (va : Option Addr) (vn vc : Nat), Hid (RdL (fun x => b + 2 ≤ x) W va vn vc M ∧ OvS w b ⟨(q1 : Nat), (q2 : Nat)⟩ W) → Calls Try.prog 48 #[.slice va vn vc, .agg #[.int .i64 (z1' : Nat), .int .i64 (z2' : Nat)]] W fun e w' => e = .returned (.tuple #[.slice va vn vc, .agg #[.int .i64 (z1' : Nat), .int .i64 (z2' : Nat)], .int .i64 0]) ∧ ArP b1 w' ∧ Hid (RdL (fun x => b + 2 ≤ x) w' va vn vc M ∧ Below b w w')) := by
      intro W va vn vc hW
      refine (ksettled_ok _ va vn vc M (z1', z2') W hW.out.1 (by omega)).mono ?_
      rintro e w' ⟨rfl, hb⟩
      have h4 := hW.out.2.below hbe hb
      exact ⟨rfl, (h4.cells hb1).2.2.2.2.2, hW.out.1.below hb, h4.hb⟩
    obtain ⟨q3, hq3⟩ : ∃ q3, q1 + 1 = q3 := ⟨_, rfl⟩
    have hq3i : (q1 : Int) + 1 = (q3 : Int) := by omega
    have HREP : Hid (∀ (W : World) (k g : Nat) (A : List (List Int)), k ≤ 2 → (L.take q1 ++ A ++ L.drop q3 = M) → RdL (fun x => b + 2 ≤ x) W (some ⟨g, 0, none⟩) k k A → OvS w b ⟨(q1 : Nat), (q2 : Nat)⟩ W → Calls Try.prog 47 #[.slice (some ⟨lb, lo, none⟩) n c, .int .i64 (q1 : Nat), .int .i64 (q3 : Nat), .slice (some ⟨g, 0, none⟩) k k] W fun e w' => ∃ (va : Option Addr) (vn vc : Nat), e = .returned (.slice va vn vc) ∧ OvC b b1 ⟨(q1 : Nat), (q2 : Nat)⟩ w' ∧ Hid (RdL (fun x => b + 2 ≤ x) w' va vn vc M ∧ OvS w b ⟨(q1 : Nat), (q2 : Nat)⟩ w')) := by
      intro W k g A hk hA hR hW
      have hbW := hW.hb
      rw [← hbe] at hbW
      have hzl := heap_lt hW.z
      refine (kreplaced_any F _ _ n c L _ k k A q1 q3 W (h.below hbW) hR (by omega) (by omega) (by omega) (by omega) (by omega)).mono ?_
      rintro e w' ⟨va, vc, rfl, hr2, hb⟩
      rw [hA] at hr2
      have h2 := hW.below hbe hb
      exact ⟨va, _, vc, rfl, h2.cells hb1, hr2.mono (fun k hk => by rcases hk with hk | hk <;> omega), h2⟩
    have HCO : Hid (∀ (W : World) (za : Option Addr) (zn zc : Nat) (z : List Int), Rd .i32 W za zn zc z → zn ≤ 65536 → OvS w b ⟨(q1 : Nat), (q2 : Nat)⟩ W → Calls Try.prog 41 #[.slice za zn zc] W fun e w' => ∃ ca cc, e = .returned (.slice ca zn cc) ∧ OvC b b1 ⟨(q1 : Nat), (q2 : Nat)⟩ w' ∧ Hid (OvS w b ⟨(q1 : Nat), (q2 : Nat)⟩ w' ∧ w'.ownsRow (b + 2) 21 1 (.slice ca zn cc) zn (ints z) ∧ Below W.heap.size W w')) := by
      intro W za zn zc z hz hzn hW
      refine (copied_rd za zn zc z W hz (by omega)).mono ?_
      rintro e w' ⟨ca, cc, rfl, ho, hb⟩
      have h2 := hW.below hbe hb
      exact ⟨ca, cc, rfl, h2.cells hb1, h2, own_mono ho (by have := heap_lt hW.z; omega), hb⟩
    have HRX : Hid (∀ W u, OvS w b u W → Rd .i32 W (some ad) y xc x) := by
      intro W u hW
      have hbW := hW.hb
      rw [← hbe] at hbW
      exact hrdx.below hbW
    have HXW := Lib.hid hxw
    have HY := Lib.hid hy
    have hqy : q2 ≤ y := by omega
    have hqc : q2 ≤ xc := by omega
    have hKc : K ≤ xc := by omega
    have hKy : K ≤ y := by omega
    rw [hbe]
    have HZ := Lib.hid hZ
    have HMM := Lib.hid hM
    have HKK := Lib.hid hK
    have HXX := Lib.hid hxx
    have HQ3 := Lib.hid hq3
    have hq36 : q3 ≤ 65536 := by omega
    have hb12 : b + 2 = b1 + 1 := by omega
    have hK6 : K ≤ 65536 := by omega
    have HW0 := Lib.hid hr
    clear h hs hL0 hp hm hl hok hN hlb hrow hcl hov hx hrdx hxl hcnt hovs hq hxx hy hwb hP hbe hb1 hovs2 hxw hK hM hZ hq3
    go_enter Try.func30, Try.ntmps30
    go_upto_region 1 with fail
    rw [HBE.out, HW.out, HB1.out]
    go_upto_region 4 with (go_at_call 53; (with_reducible refine (HCLIP.out _ rfl).mono ?_); rintro e w2 ⟨rfl, ⟨t0, t1, t2, t3, tl, ⟨r0, r1, r2, r3, r4⟩⟩, HP2⟩)
    have HP3 := Lib.hid (HP2.out.set ⟨(q1 : Nat), (q2 : Nat)⟩)
    obtain ⟨w3, hw3⟩ : ∃ w3, (w2.setCell ⟨b, 0, none⟩ (.int .i64 (q1 : Nat))).setCell ⟨b, 1, none⟩ (.int .i64 (q2 : Nat)) = w3 := ⟨_, rfl⟩
    simp only at HP3
    rw [hw3] at HP3 ⊢
    clear hw3 t0 t1 t2 t3 tl r0 r1 r2 r3 r4 HP2 x0 x1 z0 z1 xl u0 u1 u2 u3 u4
    obtain ⟨x0, x1, z0, z1, xl, ⟨u0, u1, u2, u3, u4⟩⟩ := HP3.out.cells HB1.out
    simp only at x0 x1
    have hrow3 := HROW.out _ _ HP3.out
    have hfd : decide ((y : Int) - (q2 : Int) < (N : Int)) = false := decide_eq_false (by omega)
    go_upto_region 7 with fail
    obtain ⟨da, hda⟩ : ∃ da, (if xc = K then some ad else some (ad.add K)) = da := ⟨_, rfl⟩
    have HDA := Lib.hid hda
    go_cut [12, 13] (fun v12 v13 W => v12 = .slice (some ad) q2 xc ∧ v13 = .slice da (y - K) (xc - K) ∧ Hid (OvS w b ⟨(q1 : Nat), (q2 : Nat)⟩ W))
    case first =>
      by_cases hxk : xc = K
      · rw [if_pos hxk] at hda
        subst hda
        subst hxk
        go_quiet (fail)
        go_wp2_with fail
        go_meet
        exact ⟨rfl, (by rw [show y - xc = 0 by omega, Nat.sub_self]), HP3.out.below HBE.out (bdrK (Below.refl _ _) _)⟩
      · rw [if_neg hxk] at hda
        subst hda
        go_quiet (fail)
        go_wp2_with fail
        go_meet
        exact ⟨rfl, rfl, HP3.out.below HBE.out (bdrK (Below.refl _ _) _)⟩
    case rest =>
      obtain ⟨rfl, rfl, HP4⟩ := hcut
      obtain ⟨w4, hw4⟩ : ∃ w4, w4 = wc := ⟨_, rfl⟩
      subst hw4
      clear HP3 x0 x1 z0 z1 xl u0 u1 u2 u3 u4 hrow3 hfd hda
      obtain ⟨x0, x1, z0, z1, xl, ⟨u0, u1, u2, u3, u4⟩⟩ := HP4.out.cells HB1.out
      simp only at x0 x1
      have HA1 : Hid (∀ W u, OvS w b u W → Rd .i32 W (some ad) q2 xc (x.take q2)) := fun W u hW => (HRX.out W u hW).take q2 hqy
      have HA2 : Hid (∀ W u, OvS w b u W → Rd .i32 W da (y - K) (xc - K) (x.drop K)) := by
        intro W u hW
        have h1 := (HRX.out W u hW).drop K hKy
        rw [← HDA.out]
        simpa using h1
      by_cases hr10 : r = 10
      · have hz := HZ.out
        rw [if_pos hr10] at hz
        simp only [Prod.mk.injEq] at hz
        obtain ⟨rfl, rfl⟩ := hz
        have hMA : L.take q1 ++ [x.take q2, x.drop K] ++ L.drop (q1 + 1) = M := by
          rw [← HMM.out, ← HKK.out, ← HXX.out]
          unfold overM
          rw [if_pos hr10]
        rw [HQ3.out] at hMA
        have HC1 : Hid (∀ W, (W = w4 ∨ W = w4.drew) → Calls Try.prog 41 #[.slice (some ad) q2 xc] W fun e w' => ∃ ca cc, e = .returned (.slice ca q2 cc) ∧ w'.cell? ⟨b, 0, none⟩ = some (.int .i64 (q1 : Nat)) ∧ Hid (OvS w b ⟨(q1 : Nat), (q2 : Nat)⟩ w' ∧ w'.ownsRow (b + 2) 21 1 (.slice ca q2 cc) q2 (ints (x.take q2)))) := by
          intro W hW
          have hWS : OvS w b ⟨(q1 : Nat), (q2 : Nat)⟩ W := by rcases hW with rfl | rfl; exact HP4.out; exact HP4.out.below HBE.out (Below.refl _ _).drew
          refine (HCO.out W _ _ _ _ (HA1.out W _ hWS) (by omega) hWS).mono ?_
          rintro e w' ⟨ca, cc, rfl, h1, h2⟩
          exact ⟨ca, cc, rfl, h1.1, h2.out.1, h2.out.2.1⟩
        have HC2 : Hid (∀ W ca cc, Hid (OvS w b ⟨(q1 : Nat), (q2 : Nat)⟩ W ∧ W.ownsRow (b + 2) 21 1 (.slice ca q2 cc) q2 (ints (x.take q2))) → ∀ W2, (W2 = W ∨ W2 = W.drew) → Calls Try.prog 41 #[.slice da (y - K) (xc - K)] W2 fun e w' => ∃ cb cd, e = .returned (.slice cb (y - K) cd) ∧ w'.cell? ⟨b, 0, none⟩ = some (.int .i64 (q1 : Nat)) ∧ Hid (OvS w b ⟨(q1 : Nat), (q2 : Nat)⟩ w' ∧ w'.ownsRow (b + 2) 21 1 (.slice ca q2 cc) q2 (ints (x.take q2)) ∧ w'.ownsRow (b + 2) 21 1 (.slice cb (y - K) cd) (y - K) (ints (x.drop K)))) := by
          intro W ca cc hW W2 hW2
          have hb2 : Below W.heap.size W W2 := by rcases hW2 with rfl | rfl; exact Below.refl _ _; exact (Below.refl _ _).drew
          have hWS := hW.out.1.below HBE.out hb2
          refine (HCO.out W2 _ _ _ _ (HA2.out W2 _ hWS) (by omega) hWS).mono ?_
          rintro e w' ⟨cb, cd, rfl, h1, h2⟩
          exact ⟨cb, cd, rfl, h1.1, h2.out.1, own_fr hW.out.2 (Fr.of_below (fun _ => False) (btr hb2 h2.out.2.2)) (fun _ _ h => h), h2.out.2.1⟩
        have HR2 : Hid (∀ W ca cc cb cd, Hid (OvS w b ⟨(q1 : Nat), (q2 : Nat)⟩ W ∧ W.ownsRow (b + 2) 21 1 (.slice ca q2 cc) q2 (ints (x.take q2)) ∧ W.ownsRow (b + 2) 21 1 (.slice cb (y - K) cd) (y - K) (ints (x.drop K))) → ∀ W2, (W2 = W.alloc (.cells #[.slice ca q2 cc, .slice cb (y - K) cd] 35) ∨ W2 = (W.alloc (.cells #[.slice ca q2 cc, .slice cb (y - K) cd] 35)).drew) → Calls Try.prog 47 #[.slice (some ⟨lb, lo, none⟩) n c, .int .i64 (q1 : Nat), .int .i64 (q3 : Nat), .slice (some ⟨W.heap.size, 0, none⟩) 2 2] W2 fun e w' => ∃ (va : Option Addr) (vn vc : Nat), e = .returned (.slice va vn vc) ∧ w'.cell? ⟨b, 0, none⟩ = some (.int .i64 (q1 : Nat)) ∧ Hid (RdL (fun x => b + 2 ≤ x) w' va vn vc M ∧ OvS w b ⟨(q1 : Nat), (q2 : Nat)⟩ w')) := by
          intro W ca cc cb cd hW W2 hW2
          obtain ⟨h1, h2, h3⟩ := hW.out
          have hR := rdl_two h2 h3 (by have := heap_lt h1.z; omega) (fun z hz => HXW.out z (List.mem_of_mem_take hz)) (fun z hz => HXW.out z (List.mem_of_mem_drop hz))
          have hb2 : Below (W.alloc (.cells #[.slice ca q2 cc, .slice cb (y - K) cd] 35)).heap.size (W.alloc (.cells #[.slice ca q2 cc, .slice cb (y - K) cd] 35)) W2 := by rcases hW2 with rfl | rfl; exact Below.refl _ _; exact (Below.refl _ _).drew
          refine (HREP.out W2 2 _ _ (by omega) hMA (hR.below hb2) ((h1.below HBE.out (bal W _)).below HBE.out hb2)).mono ?_
          rintro e w' ⟨va, vn, vc, rfl, h4, h5⟩
          exact ⟨va, vn, vc, rfl, h4.1, h5⟩
        have HS0 : Hid (∀ (W : World) (va : Option Addr) (vn vc : Nat), Hid (RdL (fun x => b + 2 ≤ x) W va vn vc M ∧ OvS w b ⟨(q1 : Nat), (q2 : Nat)⟩ W) → Calls Try.prog 48 #[.slice va vn vc, .agg #[.int .i64 (q3 : Nat), .int .i64 0]] W fun e w' => e = .returned (.tuple #[.slice va vn vc, .agg #[.int .i64 (q3 : Nat), .int .i64 0], .int .i64 0]) ∧ ArP b1 w' ∧ Hid (RdL (fun x => b + 2 ≤ x) w' va vn vc M ∧ Below b w w')) := by
          have h1 := HSET.out
          rw [HQ3.out] at h1
          exact h1
        have HMAd := Lib.hid hMA
        clear hMA HCO HSET HREP HROW HA1 HA2 HRX
        subst hr10
        have k0 := x0
        have k0d := cellD x0
        have hwq3 : IntKind.i64.wrap (q3 : Int) = (q3 : Int) := by rw [IntKind.wrap_i64]; omega
        go_upto_region 9 with fail
        go_cut [14] (fun v14 W => ∃ va vn vc, v14 = .slice va vn vc ∧ Hid (RdL (fun x => b + 2 ≤ x) W va vn vc M ∧ OvS w b ⟨(q1 : Nat), (q2 : Nat)⟩ W))
        case first =>
          go_region_held3 (fun W => W.cell? ⟨b, 0, none⟩ = some (.int .i64 (q1 : Nat)))
            (first | exact k0 | exact k0d | exact k1 | exact k2 | exact k3 | exact cellD k1 | exact cellD k2 | exact cellA k2 _ | exact cellD (cellA k2 _) | exact cellD k3)
            (first
              | (go_at_call 47; (with_reducible first | refine (HR2.out _ _ _ _ _ H6 _ (Or.inl rfl)).mono ?_ | refine (HR2.out _ _ _ _ _ H6 _ (Or.inr rfl)).mono ?_); rintro e w7 ⟨va, vn, vc, rfl, k3, H7⟩)
              | (go_at_call 41; (with_reducible first | refine (HC2.out _ _ _ H5 _ (Or.inl rfl)).mono ?_ | refine (HC2.out _ _ _ H5 _ (Or.inr rfl)).mono ?_); rintro e w6 ⟨cb, cd, rfl, k2, H6⟩)
              | (go_at_call 41; (with_reducible first | refine (HC1.out _ (Or.inl rfl)).mono ?_ | refine (HC1.out _ (Or.inr rfl)).mono ?_); rintro e w5 ⟨ca, cc, rfl, k1, H5⟩))
          all_goals
            go_wp2_with fail
            go_meet
            exact ⟨va, vn, vc, rfl, H7⟩
        case rest =>
          obtain ⟨va, vn, vc, rfl, H7⟩ := hcut
          obtain ⟨w8, hw8⟩ : ∃ w8, w8 = wc := ⟨_, rfl⟩
          subst hw8
          clear k0 k0d x0 x1 z0 z1 xl u0 u1 u2 u3 u4 HC1 HC2 HR2
          obtain ⟨x0, x1, z0, z1, xl, ⟨u0, u1, u2, u3, u4⟩⟩ := H7.out.2.cells HB1.out
          simp only at x0 x1
          go_wp2_with (go_at_call 48; (with_reducible refine (HS0.out _ _ _ _ H7).mono ?_); rintro e w9 ⟨rfl, ⟨t0, t1, t2, t3, t4⟩, H9⟩)
          refine bodyPost_ret (v := .tuple #[.slice va vn vc, .agg #[.int .i64 (q3 : Nat), .int .i64 0], .int .i64 0]) ?_ rfl ⟨va, vn, vc, (by rw [← HQ3.out]; rfl), ?_⟩
          · rw [results_tctK rfl]
            go_simp
            first | rfl | done
          · have hf : ∀ u v, Fr (fun z => z = b1) w9 ((w9.setCell ⟨b1, 0, none⟩ u).setCell ⟨b1, 1, none⟩ v) := fun u v => ((Fr.refl (fun z => z = b1) w9).setCell ⟨b1, 0, none⟩ _ (fun _ => rfl)).setCell ⟨b1, 1, none⟩ _ (fun _ => rfl)
            exact ⟨(H9.out.1.frF (hf _ _) (fun z hz e => by omega)).mono (fun z hz => by omega), setCell_below (setCell_below H9.out.2 _ _ _ (by omega)) _ _ _ (by omega)⟩
      · have hz := HZ.out
        rw [if_neg hr10] at hz
        simp only [Prod.mk.injEq] at hz
        obtain ⟨rfl, hz2⟩ := hz
        have hMA : L.take q1 ++ [x.take q2 ++ List.replicate N r ++ x.drop K] ++ L.drop (q1 + 1) = M := by
          rw [← HMM.out, ← HKK.out, ← HXX.out]
          unfold overM
          rw [if_neg hr10]
          rfl
        rw [HQ3.out] at hMA
        have hz3 : (K : Int) - 1 = (z2' : Int) := by omega
        have HRP : Hid (∀ W, W = w4.alloc (.cells #[.int .i32 r] 21) → Calls Try.prog 74 #[.slice (some ⟨w4.heap.size, 0, none⟩) 1 1, .int .i64 (N : Nat)] W fun e w' => ∃ ta tc, e = .returned (.slice ta N tc) ∧ OvC b b1 ⟨(q1 : Nat), (q2 : Nat)⟩ w' ∧ Hid (OvS w b ⟨(q1 : Nat), (q2 : Nat)⟩ w' ∧ Rd .i32 w' ta N tc (List.replicate N r))) := by
          rintro W rfl
          have hrl := rd_lit w4 [r] 1 rfl (by omega) (by intro z hz; simp at hz; subst hz; exact HW0.out) #[.int .i32 r] rfl
          have hre : repL N [r] = List.replicate N r := by
            unfold repL
            clear HZ HMM HKK
            induction N with
            | zero => rfl
            | succ k ih => simp [List.replicate_succ] 
          refine (krpt_any _ 1 1 N [r] _ hrl hN1 (by omega) (by omega)).mono ?_
          rintro e w' ⟨v, rfl, ho, hb⟩
          rw [hre, List.length_replicate] at ho
          obtain ⟨ta, tc, rfl⟩ := own_slice ho
          have h2 := (HP4.out.below HBE.out (bal w4 _)).below HBE.out hb
          exact ⟨ta, tc, rfl, h2.cells HB1.out, h2, own_rd ho (by intro z hz; rw [List.eq_of_mem_replicate hz]; exact HW0.out)⟩
        have HCT : Hid (∀ W ta tc, Hid (OvS w b ⟨(q1 : Nat), (q2 : Nat)⟩ W ∧ Rd .i32 W ta N tc (List.replicate N r)) → ∀ W2, (W2 = W.alloc (.cells #[.slice (some ad) q2 xc, .slice ta N tc, .slice da (y - K) (xc - K)] 35) ∨ W2 = (W.alloc (.cells #[.slice (some ad) q2 xc, .slice ta N tc, .slice da (y - K) (xc - K)] 35)).drew) → Calls Try.prog 46 #[.slice (some ⟨W.heap.size, 0, none⟩) 3 3] W2 fun e w' => ∃ oa on oc, e = .returned (.slice oa on oc) ∧ OvC b b1 ⟨(q1 : Nat), (q2 : Nat)⟩ w' ∧ Hid (OvS w b ⟨(q1 : Nat), (q2 : Nat)⟩ w' ∧ w'.ownsRow (b + 2) 21 1 (.slice oa on oc) on (ints (x.take q2 ++ List.replicate N r ++ x.drop K)))) := by
          intro W ta tc hW W2 hW2
          obtain ⟨h1, h2⟩ := hW.out
          refine (kcat3 W W2 _ _ _ q2 xc N tc (y - K) (xc - K) _ _ _ (HA1.out W _ h1) h2 (HA2.out W _ h1) (by omega) hW2).mono ?_
          rintro e w' ⟨oa, oc, rfl, ho, hb⟩
          have h3 := h1.below HBE.out hb
          exact ⟨oa, _, oc, rfl, h3.cells HB1.out, h3, own_mono ho (by have := heap_lt h1.z; omega)⟩
        have HR1 : Hid (∀ W oa on oc, Hid (OvS w b ⟨(q1 : Nat), (q2 : Nat)⟩ W ∧ W.ownsRow (b + 2) 21 1 (.slice oa on oc) on (ints (x.take q2 ++ List.replicate N r ++ x.drop K))) → ∀ W2, (W2 = W.alloc (.cells #[.slice oa on oc] 35)) → Calls Try.prog 47 #[.slice (some ⟨lb, lo, none⟩) n c, .int .i64 (q1 : Nat), .int .i64 (q3 : Nat), .slice (some ⟨W.heap.size, 0, none⟩) 1 1] W2 fun e w' => ∃ (va : Option Addr) (vn vc : Nat), e = .returned (.slice va vn vc) ∧ OvC b b1 ⟨(q1 : Nat), (q2 : Nat)⟩ w' ∧ Hid (RdL (fun x => b + 2 ≤ x) w' va vn vc M ∧ OvS w b ⟨(q1 : Nat), (q2 : Nat)⟩ w')) := by
          rintro W oa on oc hW W2 rfl
          obtain ⟨h1, h2⟩ := hW.out
          have hR := rdl_one h2 (by have := heap_lt h1.z; omega) (by
            intro z hz
            rcases List.mem_append.1 hz with hz | hz
            · rcases List.mem_append.1 hz with hz | hz
              · exact HXW.out z (List.mem_of_mem_take hz)
              · rw [List.eq_of_mem_replicate hz]; exact HW0.out
            · exact HXW.out z (List.mem_of_mem_drop hz))
          refine (HREP.out _ 1 _ _ (by omega) hMA hR (h1.below HBE.out (bal W _))).mono ?_
          rintro e w' ⟨va, vn, vc, rfl, h4, h5⟩
          exact ⟨va, vn, vc, rfl, h4, h5⟩
        have HMAd := Lib.hid hMA
        unfold OvC at HRP HCT HR1
        clear hMA HCO HREP HROW HA1 HA2 HRX hz2
        have hr10b : (r == 10) = false := by simpa using hr10
        go_wp2_with (first
          | (go_at_call 74; (with_reducible refine (HRP.out _ rfl).mono ?_); rintro e w5 ⟨ta, tc, rfl, ⟨x0, x1, z0, z1, xl, ⟨u0, u1, u2, u3, u4⟩⟩, H5⟩)
          | (go_at_call 46; (with_reducible first | refine (HCT.out _ _ _ H5 _ (Or.inl rfl)).mono ?_ | refine (HCT.out _ _ _ H5 _ (Or.inr rfl)).mono ?_); rintro e w6 ⟨oa, on, oc, rfl, ⟨x0, x1, z0, z1, xl, ⟨u0, u1, u2, u3, u4⟩⟩, H6⟩)
          | (go_at_call 47; (with_reducible refine (HR1.out _ _ _ _ H6 _ rfl).mono ?_); rintro e w7 ⟨va, vn, vc, rfl, ⟨x0, x1, z0, z1, xl, ⟨u0, u1, u2, u3, u4⟩⟩, H7⟩)
          | (go_at_call 48; (with_reducible refine (HSET.out _ _ _ _ H7).mono ?_); rintro e w9 ⟨rfl, ⟨t0, t1, t2, t3, t4⟩, H9⟩))
        refine bodyPost_ret (v := .tuple #[.slice va vn vc, .agg #[.int .i64 (q1 : Nat), .int .i64 (z2' : Nat)], .int .i64 0]) ?_ rfl ⟨va, vn, vc, rfl, ?_⟩
        · rw [results_tctK rfl]
          go_simp
          first | rfl | done
        · have hf : ∀ u v, Fr (fun z => z = b1) w9 ((w9.setCell ⟨b1, 0, none⟩ u).setCell ⟨b1, 1, none⟩ v) := fun u v => ((Fr.refl (fun z => z = b1) w9).setCell ⟨b1, 0, none⟩ _ (fun _ => rfl)).setCell ⟨b1, 1, none⟩ _ (fun _ => rfl)
          exact ⟨(H9.out.1.frF (hf _ _) (fun z hz e => by omega)).mono (fun z hz => by omega), setCell_below (setCell_below H9.out.2 _ _ _ (by omega)) _ _ _ (by omega)⟩
theorem koverK : OverK 30 := by
  intro F a n c L p r m w h hs hp hr hm
  by_cases hL : L = []
  · have hl := h.len
    rw [hL] at hl
    simp only [List.length_nil] at hl
    subst hl
    have ho : overR L p r m = ([], (0, 0), 2) := by unfold overR; rw [if_pos hL]
    rw [ho]
    refine (kover_range a c p r m w).mono ?_
    rintro e w' ⟨rfl, hb⟩
    exact ⟨none, 0, 0, rfl, RdL.none0 _ _, hb⟩
  · exact kover_ok F a n c L p r m w h hs hL hp hr hm
end Go.Proofs.Ytfldjoiohejilaa.U
