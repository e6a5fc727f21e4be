/-
  The document's Over.
-/
import Derived.Test.YtfldjoiohejilaaKOver
import Derived.Test.YtfldjoiohejilaaJHdT
import Derived.Test.YtfldjoiohejilaaJOverN
namespace Go.Proofs.Ytfldjoiohejilaa.U
open Go.RowKit
set_option linter.unusedVariables false
set_option linter.unusedSimpArgs false
set_option maxRecDepth 100000

/-- Over's boxes: the place, the place that is told, the new place -/
structure OuT (w : World) (b qb : Nat) (u z : Po) (W : World) : Prop where
  o : OvS w b u W
  q : W.heap[qb]? = some (.cells #[.int .i64 z.l, .int .i64 z.c] 24 (0, 0))
  lt : b + 1 < qb
theorem OuT.below {w W W' : World} {b qb : Nat} {u z : Po} (h : OuT w b qb u z W) (hw : w.heap.size = b) (hb : Below W.heap.size W W') : OuT w b qb u z W' := ⟨h.o.below hw hb, hbox h.q hb, h.lt⟩
theorem OuT.keep {w W W' : World} {b qb : Nat} {u z : Po} (h : OuT w b qb u z W) (hb : Below (b + 2) W W') (hk : KeepT W W') : OuT w b qb u z W' :=
  ⟨⟨h.o.hb.trans (hb.mono (by omega)), (hb.block _ (by omega)).trans h.o.p, (hb.block _ (by omega)).trans h.o.z⟩, hk _ _ _ h.q (by decide), h.lt⟩
theorem OuT.setq {w W : World} {b qb : Nat} {u z : Po} (h : OuT w b qb u z W) (v : Po) : OuT w b qb u v ((W.setCell ⟨qb, 0, none⟩ (.int .i64 v.l)).setCell ⟨qb, 1, none⟩ (.int .i64 v.c)) := by
  have hf : Fr (fun k => k = qb) W ((W.setCell ⟨qb, 0, none⟩ (.int .i64 v.l)).setCell ⟨qb, 1, none⟩ (.int .i64 v.c)) := ((Fr.refl (fun k => k = qb) W).setCell ⟨qb, 0, none⟩ _ (fun _ => rfl)).setCell ⟨qb, 1, none⟩ _ (fun _ => rfl)
  have hlt := h.lt
  exact ⟨⟨setCell_below (setCell_below h.o.hb _ _ _ (by omega)) _ _ _ (by omega), (hf.block _ (heap_lt h.o.p) (by omega)).trans h.o.p, (hf.block _ (heap_lt h.o.z) (by omega)).trans h.o.z⟩, heap_set (heap_set h.q 0 _) 1 _, hlt⟩
theorem HdT.setP {B qb : Nat} {w : World} {a : Option Addr} {n c : Nat} {L : List (List Int)} (h : HdT B w a n c L) {cs : Array Value} (hq : w.heap[qb]? = some (.cells cs 24 (0, 0))) (u v : Value) : HdT B ((w.setCell ⟨qb, 0, none⟩ u).setCell ⟨qb, 1, none⟩ v) a n c L := by
  have hf : Fr (fun k => k = qb) w ((w.setCell ⟨qb, 0, none⟩ u).setCell ⟨qb, 1, none⟩ v) := ((Fr.refl (fun k => k = qb) w).setCell ⟨qb, 0, none⟩ _ (fun _ => rfl)).setCell ⟨qb, 1, none⟩ _ (fun _ => rfl)
  obtain ⟨vs, h1, h2⟩ := h
  refine ⟨vs, own_fr h1 hf (fun k e => row_block_apart h1 hq (by decide) e), h2.1, fun i x hx => ?_⟩
  obtain ⟨ra, m, rc, e1, e2⟩ := h2.2 i x hx
  refine ⟨ra, m, rc, e1, e2.fr hf (fun k hk cur hc => ?_)⟩
  subst hk
  rw [hq] at hc
  injection hc with hc
  injection hc with _ hc
  exact absurd hc (by decide)
theorem OuT.setg {w W : World} {b qb g : Nat} {u z : Po} (h : OuT w b qb u z W) (hg : b + 2 ≤ g) (hq : g < qb) (j : Nat) (v : Value) : OuT w b qb u z (W.setCell ⟨g, j, none⟩ v) := by
  have hf : Fr (fun k => k = g) W (W.setCell ⟨g, j, none⟩ v) := (Fr.refl (fun k => k = g) W).setCell ⟨g, j, none⟩ _ (fun _ => rfl)
  have hlt := h.lt
  exact ⟨⟨setCell_below h.o.hb _ _ _ (by omega), (hf.block _ (heap_lt h.o.p) (by omega)).trans h.o.p, (hf.block _ (heap_lt h.o.z) (by omega)).trans h.o.z⟩, (hf.block _ (heap_lt h.q) (by omega)).trans h.q, hlt⟩
theorem RdT.cap {B : Nat} {w : World} {ra : Option Addr} {m rc : Nat} {x : List Int} (h : RdT B w ra m rc x) : RdT B w ra m m x := by
  obtain ⟨⟨h1, h2, h3, h4, h6, h5⟩, hb⟩ := h
  exact ⟨⟨h1, Nat.le_refl _, by omega, h4, fun e => by have := h6 e; omega, h5⟩, hb⟩
/-- a row written over from q on, i times -/
def putR (x : List Int) (q i : Nat) (r : Int) : List Int := x.take q ++ List.replicate i r ++ x.drop (q + i)
theorem putR_len (x : List Int) (q i : Nat) (r : Int) (h : q + i ≤ x.length) : (putR x q i r).length = x.length := by
  unfold putR
  simp only [List.length_append, List.length_take, List.length_replicate, List.length_drop]
  omega
theorem putR_set (x : List Int) (q i : Nat) (r : Int) (h : q + i < x.length) : (putR x q i r).set (q + i) r = putR x q (i + 1) r := by
  unfold putR
  have hl : (x.take q ++ List.replicate i r).length = q + i := by simp; omega
  rw [List.set_append_right _ _ (by omega), hl, Nat.sub_self, List.drop_eq_getElem_cons h]
  simp only [List.set_cons_zero]
  rw [List.replicate_succ', show q + (i + 1) = q + i + 1 by omega]
  simp
set_option maxHeartbeats 16000000 in
theorem rover_ok (F : Nat → Prop) (a : Option Addr) (n c : Nat) (L : List (List Int)) (p : Po) (r m : Int) (w : World) (h : RdL F w a n c L) (hs : sizeN (lens L) ≤ 65536) (hL0 : L ≠ []) (hp : i64p p) (hr : (Lit.int .i32 r).wf = true) (hm : i64b m) (hR : ¬ ((lnL L (clipZ L p).1).length : Int) - ((clipZ L p).2 : Int) < max 1 m) :
    Calls Try.prog 31 #[.slice a n c, p.v, .int .i32 r, .int .i64 m] w fun e w' => ∃ ra k rc, e = .returned (.tuple #[.slice ra k rc, plV (overR L p r m).2.1, .int .i64 (overR L p r m).2.2]) ∧ RdL (fun x => w.heap.size ≤ x) w' ra k rc (overR L p r m).1 ∧ Below w.heap.size w w' := by
  have hl := h.len
  have hok : okP L (clipZ L p) := clipP_ok hL0 _ _
  obtain ⟨N, hN⟩ : ∃ N : Nat, max 1 m = (N : Int) := ⟨(max 1 m).toNat, by omega⟩
  have hN1 : 1 ≤ N := by omega
  have hnc : n ≤ c ∧ c ≤ 9223372036854775807 := by obtain ⟨vs, h1, _⟩ := h; have := h1.2.1; have := h1.2.2.1; unfold maxLen at this; exact ⟨by omega, by omega⟩
  obtain ⟨hnc, hcs⟩ := hnc
  obtain ⟨lb, lo, rfl, hlb, -, hrow⟩ := h.at_ (by have := hok.1; omega)
  have hcl := fun (W : World) (hW : Below w.heap.size w W) => rclip_any F _ n c L p W (h.below hW) hp
  have hov : overR L p r m = (overM L (clipZ L p) r N, (if r = 10 then ((clipZ L p).1 + 1, 0) else ((clipZ L p).1, (clipZ L p).2 + N - 1)), 0) := by
    unfold overR
    rw [if_neg hL0, if_neg hR, hN, Int.toNat_natCast]
  rw [hN] at hR
  have hx : L[(clipZ L p).1]? = some (lnL L (clipZ L p).1) := by unfold lnL; rw [List.getD_eq_getElem?_getD, List.getElem?_eq_getElem hok.1]; rfl
  obtain ⟨xa, xc, hcx, hrdx, -⟩ := hrow _ _ hx
  have hxl := sizeN_mem (List.mem_map.2 ⟨_, List.mem_of_getElem? hx, rfl⟩ : List.length (lnL L (clipZ L p).1) ∈ List.map List.length L)
  have hxl2 : (lnL L (clipZ L p).1).length ≤ 65536 := by unfold lens at hs; omega
  have hcnt := size_count L
  rw [hov]
  unfold clipZ at hcx hrdx hxl2 hok hR ⊢
  obtain ⟨⟨q1, q2⟩, hq⟩ : ∃ q, clipP L p.l p.c = q := ⟨_, rfl⟩
  rw [hq] at hcx hrdx hxl2 hok hR hcl ⊢
  simp only at hcx hrdx hxl2 hR ⊢
  obtain ⟨x, hxx⟩ : ∃ x, lnL L q1 = x := ⟨_, rfl⟩
  obtain ⟨y, hy⟩ : ∃ y, x.length = y := ⟨_, rfl⟩
  have hq1n : q1 < n := by have := hok.1; simp only at this; omega
  rw [hxx] at hcx hrdx hxl2 hR
  rw [hy] at hcx hrdx hxl2 hR
  have hfitN : q2 + N ≤ y := by omega
  have hq2y : q2 ≤ 65536 := by omega
  obtain ⟨K, hK⟩ : ∃ K, q2 + N = K := ⟨_, rfl⟩
  have hKi : (q2 : Int) + (N : Int) = (K : Int) := by omega
  obtain ⟨M, hM⟩ : ∃ M, overM L (q1, q2) r N = M := ⟨_, rfl⟩
  obtain ⟨q3, hq3⟩ : ∃ q3, q1 + 1 = q3 := ⟨_, rfl⟩
  have hq3i : (q1 : Int) + 1 = (q3 : Int) := by omega
  obtain ⟨k1, hk1⟩ : ∃ k1, q2 + N - 1 = k1 := ⟨_, rfl⟩
  have hk1i : (K : Int) - 1 = (k1 : Int) := by omega
  obtain ⟨Z, hZ⟩ : ∃ Z : Po, (if r = 10 then (⟨(q3 : Nat), 0⟩ : Po) else ⟨(q1 : Nat), (k1 : Nat)⟩) = Z := ⟨_, rfl⟩
  have HZV : Hid (∀ (ra : Option Addr) (rn rc : Nat) (u : Unit), Ending.returned (.tuple #[.slice ra rn rc, .agg #[.int .i64 Z.l, .int .i64 Z.c], .int .i64 0]) = Ending.returned (.tuple #[.slice ra rn rc, plV (if r = 10 then (q1 + 1, 0) else (q1, q2 + N - 1)), .int .i64 0])) := by
    intro ra rn rc u
    rw [← hZ]
    by_cases e : r = 10
    · rw [if_pos e, if_pos e, ← hq3]; rfl
    · rw [if_neg e, if_neg e, ← hk1]; rfl
  rw [hM]
  have hxwf := hrdx.2.2.2.1
  obtain ⟨ad, rfl⟩ : ∃ ad, xa = some ad := by
    cases xa with
    | none => have := hrdx.2.2.2.2.1 rfl; have := hrdx.2.1; omega
    | some ad => exact ⟨ad, rfl⟩
  obtain ⟨wb, hwb⟩ : ∃ wb, (w.alloc (.cells #[.int .i64 p.l, .int .i64 p.c] 24)).alloc (.cells #[.int .i64 0, .int .i64 0] 24) = wb := ⟨_, rfl⟩
  have hP := ovs_new w p
  rw [hwb] at hP
  obtain ⟨b, hbe⟩ : ∃ b, w.heap.size = b := ⟨_, rfl⟩
  obtain ⟨b1, hb1⟩ : ∃ b1, b + 1 = b1 := ⟨_, rfl⟩
  rw [hbe] at hP
  have HCLIP : Hid (∀ W, W = wb → Calls Try.prog 32 #[.slice (some ⟨lb, lo, none⟩) n c, .agg #[.int .i64 p.l, .int .i64 p.c]] W fun e w' => e = .returned (.agg #[.int .i64 (q1 : Nat), .int .i64 (q2 : Nat)]) ∧ OvC b b1 p w' ∧ Hid (OvS w b p w')) := by
    rintro W rfl
    have hbW := hP.hb
    rw [← hbe] at hbW
    refine (hcl W hbW).mono ?_
    rintro e w' ⟨rfl, hb⟩
    have h2 := hP.below hbe hb
    exact ⟨rfl, h2.cells hb1, h2⟩
  have HROW : Hid (∀ W u, OvS w b u W → W.cell? ⟨lb, lo + q1, none⟩ = some (.slice (some ad) y xc)) := by
    intro W u hW
    have hbW := hW.hb
    rw [← hbe] at hbW
    exact (hbW.cell (p := ⟨lb, lo + q1, none⟩) hlb).trans hcx
  have hwf := lines_wf (rdl_wf h)
  -- Twin of the lines ahead, and the line's copy
  have HTW : Hid (∀ W, Hid (OvS w b ⟨(q1 : Nat), (q2 : Nat)⟩ W) → Calls Try.prog 12 #[.slice (some ⟨lb, lo, none⟩) q1 c] W fun e w4 => ∃ ta tc, e = .returned (.slice ta q1 tc) ∧ ∃ g yc w5 w6 qb, Hid (∀ ty, (Builtin.append_ #[35, 35] ty #[.slice (some ⟨w4.heap.size, 0, none⟩) 0 0, .slice (some ad) y xc]).run Try.prog (w4.alloc (.cells #[] 21)) = .ok (.slice (some ⟨g, 0, none⟩) y yc) w5) ∧ OvC b b1 ⟨(q1 : Nat), (q2 : Nat)⟩ w5 ∧ w5.alloc (.cells #[.int .i64 (q1 : Nat), .int .i64 (k1 : Nat)] 24) = w6 ∧ w5.heap.size = qb ∧ y ≤ yc ∧ Hid (OuT w b qb ⟨(q1 : Nat), (q2 : Nat)⟩ ⟨(q1 : Nat), (k1 : Nat)⟩ w6 ∧ OwnL (fun k => b + 2 ≤ k ∧ k < w4.heap.size) w6 ta q1 tc (L.take q1) ∧ w6.ownsRow w4.heap.size 21 1 (.slice (some ⟨g, 0, none⟩) y yc) y (ints x) ∧ b + 2 ≤ w4.heap.size ∧ g < qb)) := by
    intro W hW
    have hbW := hW.out.hb
    rw [← hbe] at hbW
    have hzl := heap_lt hW.out.z
    refine (rtwin_any F _ q1 c (L.take q1) W ((h.below hbW).take q1 (by omega)) (by have := size_take_le L q1; omega)).mono ?_
    rintro e w4 ⟨ta, tc, rfl, hf, hb⟩
    have h4 := hW.out.below hbe hb
    have hsz := hb.size
    have hb4 := h4.hb
    rw [← hbe] at hb4
    obtain ⟨ya, yc, w5, hrun, ho, hb5⟩ := app_lit w4 (some ad) y xc x (hrdx.below hb4) (by omega)
    obtain ⟨g, rfl⟩ := own_some ho (by omega)
    have h5 := h4.below hbe hb5
    have hgl := (ho.lt g rfl).2
    have hyc := (Rc.own ho).2.1
    refine ⟨ta, tc, rfl, g, yc, w5, _, _, hrun, h5.cells hb1, rfl, rfl, hyc, ⟨h5.below hbe (bal _ _), heap_alloc_new _ _, by have := hb5.size; omega⟩, ?_, own_fr ho (Fr.of_below (fun _ => False) (bal _ _)) (fun _ _ h => h), by omega, hgl⟩
    exact (((fresh_ownK hf (fun z hz => hwf z (List.mem_of_mem_take hz))).mono (fun k _ hk => ⟨by omega, hk.2⟩)).below hb5).below (bal _ _)
  have HREST : Hid (∀ (W : World) (oa : Option Addr) (on oc qb : Nat) (da : Option Addr), (if c = q3 then some (⟨lb, lo, none⟩ : Addr) else some (⟨lb, lo + q3, none⟩ : Addr)) = da → Hid (OuT w b qb ⟨(q1 : Nat), (q2 : Nat)⟩ Z W ∧ (∃ O, HdT (b + 2) W oa on oc O ∧ O ++ L.drop q3 = M) ∧ on ≤ 131072) → Hid (∀ W2, (W2 = W ∨ W2 = W.drew) → Calls Try.prog 12 #[.slice da (n - q3) (c - q3)] W2 fun e w9 => ∃ ta tc, e = .returned (.slice ta (n - q3) tc) ∧ OvC b b1 ⟨(q1 : Nat), (q2 : Nat)⟩ w9 ∧ (w9.cell? ⟨qb, 0, none⟩ = some (.int .i64 Z.l) ∧ w9.cell? ⟨qb, 1, none⟩ = some (.int .i64 Z.c) ∧ qb < w9.heap.size) ∧ ∃ a9 c9 wA, Hid (∀ ty, (Builtin.append_ #[22, 22] ty #[.slice oa on oc, .slice ta (n - q3) tc]).run Try.prog w9 = .ok (.slice a9 (on + (n - q3)) c9) wA) ∧ OvC b b1 ⟨(q1 : Nat), (q2 : Nat)⟩ wA ∧ (wA.cell? ⟨qb, 0, none⟩ = some (.int .i64 Z.l) ∧ wA.cell? ⟨qb, 1, none⟩ = some (.int .i64 Z.c) ∧ qb < wA.heap.size) ∧ Hid (∀ u v, RdL (fun x => b ≤ x) ((wA.setCell ⟨b1, 0, none⟩ u).setCell ⟨b1, 1, none⟩ v) a9 (on + (n - q3)) c9 M ∧ Below b w ((wA.setCell ⟨b1, 0, none⟩ u).setCell ⟨b1, 1, none⟩ v)))) := by
    intro W oa on oc qb da hda hW
    intro W2 hW2
    obtain ⟨h1, ⟨O, h2, h3⟩, h4⟩ := hW.out
    have hb2 : Below W.heap.size W W2 := by rcases hW2 with rfl | rfl; exact Below.refl _ _; exact (Below.refl _ _).drew
    have h1' := h1.below hbe hb2
    have h2' := h2.below hb2
    have hbW := h1'.o.hb
    rw [← hbe] at hbW
    have hdr := (h.below hbW).drop q3 (by omega)
    have hda2 : (if c = q3 then (some ⟨lb, lo, none⟩ : Option Addr) else (some (⟨lb, lo, none⟩ : Addr)).map (·.add (q3 * 1))) = da := by
      rw [← hda]
      split
      · rfl
      · simp [add_lit]
    rw [hda2] at hdr
    have hzl := heap_lt h1'.o.z
    refine (h2'.rest F hdr (by rw [lens_drop]; have := sizeN_drop_le2 (lens L) q3; omega) (by omega) (by omega)).mono ?_
    rintro e w9 ⟨ta, tc, rfl, hb9, a9, c9, wA, hrun, h5, h6, h8⟩
    rw [h3] at h5
    have h7 := h1'.below hbe hb9
    have hA := h1'.keep h6 h8
    have e9 := h7.q
    have eA := hA.q
    refine ⟨ta, tc, rfl, h7.o.cells hb1, ⟨cell_row e9 0, cell_row e9 1, heap_lt e9⟩, a9, c9, wA, hrun, hA.o.cells hb1, ⟨cell_row eA 0, cell_row eA 1, heap_lt eA⟩, fun u v => ?_⟩
    subst hb1
    have hf : Fr (fun k => k = b + 1) wA ((wA.setCell ⟨b + 1, 0, none⟩ u).setCell ⟨b + 1, 1, none⟩ v) := ((Fr.refl (fun k => k = b + 1) wA).setCell ⟨b + 1, 0, none⟩ _ (fun _ => rfl)).setCell ⟨b + 1, 1, none⟩ _ (fun _ => rfl)
    exact ⟨(h5.rdl.frF hf (fun z hz e => by omega)).mono (fun z hz => by omega), setCell_below (setCell_below hA.o.hb _ _ _ (by omega)) _ _ _ (by omega)⟩
  have HXW := Lib.hid hxwf
  have HY := Lib.hid hy
  have HXX := Lib.hid hxx
  have HMM := Lib.hid hM
  have HKK := Lib.hid hK
  have HQ3 := Lib.hid hq3
  have HZ := Lib.hid hZ
  have HK1 := Lib.hid hk1
  have HBE := Lib.hid hbe
  have HB1 := Lib.hid hb1
  have HW := Lib.hid hwb
  have HWR := Lib.hid hr
  obtain ⟨x0, x1, z0, z1, xl, ⟨u0, u1, u2, u3, u4⟩⟩ := hP.cells hb1
  have hmx := hN
  have hn6 : n ≤ 65536 := by omega
  have hn0i : ¬ (n : Int) = 0 := by omega
  have hq1i : (q1 : Int) < (n : Int) := by omega
  have hq10 : (0 : Int) ≤ (q1 : Int) := by omega
  have hN6 : N ≤ 65536 := by omega
  have hKy : K ≤ y := by omega
  have hq36 : q3 ≤ 65536 := by omega
  have hq3n : q3 ≤ n := by omega
  have hq1c : q1 ≤ c := by omega
  have hq3c : q3 ≤ c := by omega
  have hk16 : k1 ≤ 131072 := by omega
  have hwK : IntKind.i64.wrap (K : Int) = (K : Int) := by rw [IntKind.wrap_i64]; omega
  have hwq3 : IntKind.i64.wrap (q3 : Int) = (q3 : Int) := by rw [IntKind.wrap_i64]; omega
  have hK6 : K ≤ 65536 := by omega
  have hfd : decide ((y : Int) - (q2 : Int) < (N : Int)) = false := decide_eq_false (by omega)
  unfold OvC at HCLIP HTW HREST
  rw [hbe]
  show Calls Try.prog _ #[_, .agg #[.int .i64 p.l, .int .i64 p.c], _, _] w _
  clear h hs hL0 hp hm hl hok hlb hrow hcl hov hx hrdx hxl hcnt hq hxx hy hwb hP hbe hb1 hxwf hK hM hZ hq3 hk1 hwf hcx hN hr
  go_enter Try.func31, Try.ntmps31
  go_upto_region 1 with fail
  rw [HBE.out, HW.out, HB1.out]
  go_upto_region 4 with (go_at_call 32; (with_reducible refine (HCLIP.out _ rfl).mono ?_); rintro e w2 ⟨rfl, ⟨t0, t1, t2, t3, tl, ⟨r0, r1, r2, r3, r4⟩⟩, HP2⟩)
  have HP3 := Lib.hid (HP2.out.set ⟨(q1 : Nat), (q2 : Nat)⟩)
  obtain ⟨w3, hw3⟩ : ∃ w3, (w2.setCell ⟨b, 0, none⟩ (.int .i64 (q1 : Nat))).setCell ⟨b, 1, none⟩ (.int .i64 (q2 : Nat)) = w3 := ⟨_, rfl⟩
  simp only at HP3
  rw [hw3] at HP3 ⊢
  clear hw3 t0 t1 t2 t3 tl r0 r1 r2 r3 r4 HP2 x0 x1 z0 z1 xl u0 u1 u2 u3 u4 HCLIP
  obtain ⟨x0, x1, z0, z1, xl, ⟨u0, u1, u2, u3, u4⟩⟩ := HP3.out.cells HB1.out
  simp only at x0 x1
  have hrow3 := HROW.out _ _ HP3.out
  go_upto_region 11 with (first
    | (at_builtin; go_must (with_reducible refine Lib.wpList_append_run _ rfl (.tmp 43) (.tmp 44) _ _ rfl _ _ rfl rfl _ _ (HRUN1.out _) ?_))
    | (go_at_call 12; (with_reducible refine (HTW.out _ HP3).mono ?_); rintro e w4 ⟨ta, tc, rfl, g, yc, w5, w6, qb, HRUN1, ⟨x0, x1, z0, z1, xl, ⟨u0, u1, u2, u3, u4⟩⟩, hw6, hqb, hyc, H6⟩))
  (try rw [hw6])
  (try rw [hqb])
  clear HRUN1 hw6 hqb HP3 HTW x0 x1 z0 z1 xl u0 u1 u2 u3 u4 hrow3 HROW
  obtain ⟨s4, hs4⟩ : ∃ s4, w4.heap.size = s4 := ⟨_, rfl⟩
  rw [hs4] at H6
  clear hs4
  obtain ⟨x0, x1, z0, z1, xl, ⟨u0, u1, u2, u3, u4⟩⟩ := H6.out.1.o.cells HB1.out
  simp only at x0 x1
  obtain ⟨v0, v1, y0, y1⟩ := row2 H6.out.1.q
  have vl := heap_lt H6.out.1.q
  simp only at v0 v1
  by_cases hr10 : r = 10
  · have hz := HZ.out
    rw [if_pos hr10] at hz
    subst hz
    have hMA : (L.take q1 ++ [x.take q2, x.drop K]) ++ L.drop q3 = M := by
      rw [← HMM.out, ← HKK.out, ← HXX.out, ← HQ3.out]
      unfold overM
      rw [if_pos hr10]
    have hyt : RdT (b + 2) w6 (some ⟨g, 0, none⟩) y yc x := RdT.own (own_mono H6.out.2.2.1 H6.out.2.2.2.1) HXW.out
    obtain ⟨db, hdb⟩ : ∃ db, (if yc = K then (some ⟨g, 0, none⟩ : Option Addr) else (some (⟨g, 0, none⟩ : Addr)).map (·.add (K * 1))) = db := ⟨_, rfl⟩
    have hyd := hyt.drop K hKy
    rw [hdb] at hyd
    have hqs := H6.out.2.2.2.1
    have hsz6 : b + 2 ≤ w6.heap.size := by have := heap_lt H6.out.1.q; have := H6.out.1.lt; omega
    have hH := hdt_own H6.out.2.1 (fun k hk => hk.1)
    obtain ⟨oa, oc, w7, hrun, hN7, hb7, hk7⟩ := hH.put2 (hyt.take q2 (by omega)).cap hyd hsz6 (by omega) _ (Or.inr rfl)
    obtain ⟨oa', oc', w7', hrun', hN7', hb7', hk7'⟩ := hH.put2 (hyt.take q2 (by omega)).cap hyd hsz6 (by omega) _ (Or.inl rfl)
    have HRUN2 := Lib.hid hrun
    have HRUN2' := Lib.hid hrun'
    have H7 : Hid (OuT w b qb ⟨(q1 : Nat), (q2 : Nat)⟩ ⟨(q1 : Nat), (k1 : Nat)⟩ w7 ∧ HdT (b + 2) w7 oa (q1 + 2) oc (L.take q1 ++ [x.take q2, x.drop K])) := ⟨H6.out.1.keep hb7 hk7, hN7⟩
    have H7' : Hid (OuT w b qb ⟨(q1 : Nat), (q2 : Nat)⟩ ⟨(q1 : Nat), (k1 : Nat)⟩ w7' ∧ HdT (b + 2) w7' oa' (q1 + 2) oc' (L.take q1 ++ [x.take q2, x.drop K])) := ⟨H6.out.1.keep hb7' hk7', hN7'⟩
    have hq2y2 : q2 ≤ yc := by omega
    have hKyc : K ≤ yc := by omega
    have HMA := Lib.hid hMA
    clear hMA hyt hyd hH hrun hrun' hN7 hN7' hb7 hb7' hk7 hk7'
    subst hr10
    go_upto_region 12 with fail
    go_cut [12] (fun v12 W => ∃ oa oc, v12 = .slice oa (q1 + 2) oc ∧ Hid (OuT w b qb ⟨(q1 : Nat), (q2 : Nat)⟩ ⟨(q1 : Nat), (k1 : Nat)⟩ W ∧ HdT (b + 2) W oa (q1 + 2) oc (L.take q1 ++ [x.take q2, x.drop K])))
    case first =>
      by_cases hyk : yc = K
      · rw [if_pos hyk] at hdb
        subst hdb
        have hyK : y - K = 0 := by omega
        subst hyk
        simp only [Nat.sub_self, hyK] at HRUN2 HRUN2'
        go_region_law (first
          | (refine step_append_run rfl (.tmp 56) (.tmp 69) _ _ rfl _ _ (by simp [Act.eval, Act.put]) (by simp [Act.eval, Act.put]) (HRUN2.out _) ?_)
          | (refine step_append_run rfl (.tmp 56) (.tmp 69) _ _ rfl _ _ (by simp [Act.eval, Act.put]) (by simp [Act.eval, Act.put]) (HRUN2'.out _) ?_))
        all_goals
          go_wp2_with fail
          go_meet
          first | exact ⟨_, _, rfl, H7⟩ | exact ⟨_, _, rfl, H7'⟩
      · rw [if_neg hyk] at hdb
        simp only [Option.map_some, Nat.mul_one, add_lit, Nat.zero_add] at hdb
        subst hdb
        go_region_law (first
          | (refine step_append_run rfl (.tmp 56) (.tmp 69) _ _ rfl _ _ (by simp [Act.eval, Act.put]) (by simp [Act.eval, Act.put]) (HRUN2.out _) ?_)
          | (refine step_append_run rfl (.tmp 56) (.tmp 69) _ _ rfl _ _ (by simp [Act.eval, Act.put]) (by simp [Act.eval, Act.put]) (HRUN2'.out _) ?_))
        all_goals
          go_wp2_with fail
          go_meet
          first | exact ⟨_, _, rfl, H7⟩ | exact ⟨_, _, rfl, H7'⟩
    case rest =>
      obtain ⟨oa, oc, rfl, H8a⟩ := hcut
      obtain ⟨w8a, hw8a⟩ : ∃ w8a, w8a = wc := ⟨_, rfl⟩
      subst hw8a
      clear x0 x1 z0 z1 xl u0 u1 u2 u3 u4 v0 v1 y0 y1 vl HRUN2 HRUN2' H7 H7' H6
      obtain ⟨x0, x1, z0, z1, xl, ⟨u0, u1, u2, u3, u4⟩⟩ := H8a.out.1.o.cells HB1.out
      simp only at x0 x1
      obtain ⟨v0, v1, y0, y1⟩ := row2 H8a.out.1.q
      have vl := heap_lt H8a.out.1.q
      simp only at v0 v1
      go_upto_region 19 with fail
      obtain ⟨on, hon⟩ : ∃ on, q1 + 2 = on := ⟨_, rfl⟩
      have hon6 : on ≤ 131072 := by omega
      obtain ⟨w8, hw8⟩ : ∃ w8, (w8a.setCell ⟨qb, 0, none⟩ (.int .i64 (q3 : Nat))).setCell ⟨qb, 1, none⟩ (.int .i64 0) = w8 := ⟨_, rfl⟩
      have H8 : Hid (OuT w b qb ⟨(q1 : Nat), (q2 : Nat)⟩ ⟨(q3 : Nat), 0⟩ w8 ∧ (∃ O, HdT (b + 2) w8 oa on oc O ∧ O ++ L.drop q3 = M) ∧ on ≤ 131072) := by
        rw [← hw8, ← hon]
        exact ⟨H8a.out.1.setq ⟨(q3 : Nat), 0⟩, ⟨_, H8a.out.2.setP H8a.out.1.q _ _, HMA.out⟩, by omega⟩
      rw [hw8, hon]
      clear hw8 hon H8a x0 x1 z0 z1 xl u0 u1 u2 u3 u4 v0 v1 y0 y1 vl
      obtain ⟨x0, x1, z0, z1, xl, ⟨u0, u1, u2, u3, u4⟩⟩ := H8.out.1.o.cells HB1.out
      simp only at x0 x1
      obtain ⟨v0, v1, y0, y1⟩ := row2 H8.out.1.q
      have vl := heap_lt H8.out.1.q
      obtain ⟨da, hda⟩ : ∃ da, (if c = q3 then some (⟨lb, lo, none⟩ : Addr) else some (⟨lb, lo + q3, none⟩ : Addr)) = da := ⟨_, rfl⟩
      have HR9 := HREST.out w8 oa on oc qb da hda H8
      go_upto_region 19 with fail
      go_cut [8, 10] (fun v8 v10 W => ∃ ra rn rc, v8 = .slice ra rn rc ∧ v10 = .int .i64 0 ∧ W.cell? ⟨b1, 0, none⟩ = some (.int .i64 (q3 : Nat)) ∧ W.cell? ⟨b1, 1, none⟩ = some (.int .i64 0) ∧ b1 < W.heap.size ∧ Hid (RdL (fun x => b ≤ x) W ra rn rc M ∧ Below b w W))
      case first =>
        by_cases hcq : c = q3
        · rw [if_pos hcq] at hda
          subst hda
          have hnq : n - q3 = 0 := by omega
          subst hcq
          simp only [Nat.sub_self, hnq] at HR9
          go_region_law (first
            | (go_simp; go_at_call 12; (first | refine (HR9.out _ (Or.inl rfl)).mono ?_ | refine (HR9.out _ (Or.inr rfl)).mono ?_); rintro e w9 ⟨ta, tc, rfl, ⟨x0, x1, z0, z1, xl, ⟨u0, u1, u2, u3, u4⟩⟩, ⟨v0, v1, vl⟩, a9, c9, wA, HRUN9, ⟨p0, p1, p2, p3, pl, ⟨t0, t1, t2, t3, t4⟩⟩, ⟨s0, s1, sl⟩, HN⟩)
            | (refine step_append_run rfl (.tmp 91) (.tmp 97) _ _ rfl _ _ (by simp [Act.eval, Act.put]) (by simp [Act.eval, Act.put]) (HRUN9.out _) ?_))
          all_goals
            go_wp2_with fail
            go_meet
            exact ⟨_, _, _, rfl, rfl, by go_simp, by go_simp, by go_simp, HN.out _ _⟩
        · rw [if_neg hcq] at hda
          subst hda
          go_region_law (first
            | (go_simp; go_at_call 12; (first | refine (HR9.out _ (Or.inl rfl)).mono ?_ | refine (HR9.out _ (Or.inr rfl)).mono ?_); rintro e w9 ⟨ta, tc, rfl, ⟨x0, x1, z0, z1, xl, ⟨u0, u1, u2, u3, u4⟩⟩, ⟨v0, v1, vl⟩, a9, c9, wA, HRUN9, ⟨p0, p1, p2, p3, pl, ⟨t0, t1, t2, t3, t4⟩⟩, ⟨s0, s1, sl⟩, HN⟩)
            | (refine step_append_run rfl (.tmp 91) (.tmp 97) _ _ rfl _ _ (by simp [Act.eval, Act.put]) (by simp [Act.eval, Act.put]) (HRUN9.out _) ?_))
          all_goals
            go_wp2_with fail
            go_meet
            exact ⟨_, _, _, rfl, rfl, by go_simp, by go_simp, by go_simp, HN.out _ _⟩
      case rest =>
        obtain ⟨ra, rn, rc, rfl, rfl, ee0, ee1, eel, HE⟩ := hcut
        go_step
        go_step
        refine bodyPost_ret (v := .tuple #[.slice ra rn rc, .agg #[.int .i64 (q3 : Nat), .int .i64 0], .int .i64 0]) ?_ rfl ⟨ra, rn, rc, HZV.out _ _ _ (), HE.out⟩
        rw [results_tct rfl]
        go_simp
        first | rfl | done
  · have hz := HZ.out
    rw [if_neg hr10] at hz
    subst hz
    have hMA : (L.take q1 ++ [putR x q2 N r]) ++ L.drop q3 = M := by
      rw [← HMM.out, ← HXX.out, ← HQ3.out]
      unfold overM
      rw [if_neg hr10]
      rfl
    have hr10b : (r == 10) = false := by simpa using hr10
    have HMA := Lib.hid hMA
    have HPL : Hid (∀ i, i ≤ N → (putR x q2 i r).length = y) := fun i hi => by rw [putR_len x q2 i r (by have := HY.out; have := HKK.out; omega)]; exact HY.out
    have HPS : Hid (∀ i, i < N → (putR x q2 i r).set (q2 + i) r = putR x q2 (i + 1) r) := fun i hi => putR_set x q2 i r (by have := HY.out; have := HKK.out; omega)
    have H60 : Hid (OuT w b qb ⟨(q1 : Nat), (q2 : Nat)⟩ ⟨(q1 : Nat), (k1 : Nat)⟩ w6 ∧ OwnL (fun k => b + 2 ≤ k ∧ k < s4) w6 ta q1 tc (L.take q1) ∧ w6.ownsRow s4 21 1 (.slice (some ⟨g, 0, none⟩) y yc) y (ints (putR x q2 0 r)) ∧ b + 2 ≤ s4 ∧ g < qb) := by
      have h0 : putR x q2 0 r = x := by unfold putR; simp
      rw [h0]
      exact H6.out
    clear hMA H6 x0 x1 z0 z1 xl u0 u1 u2 u3 u4 v0 v1 y0 y1 vl
    go_wp2_with fail
    go_loopw [15] (fun v15 wr => ∃ i : Nat, v15 = .int .i64 (i : Nat) ∧ i ≤ N ∧ Hid (OuT w b qb ⟨(q1 : Nat), (q2 : Nat)⟩ ⟨(q1 : Nat), (k1 : Nat)⟩ wr ∧ OwnL (fun k => b + 2 ≤ k ∧ k < s4) wr ta q1 tc (L.take q1) ∧ wr.ownsRow s4 21 1 (.slice (some ⟨g, 0, none⟩) y yc) y (ints (putR x q2 i r)) ∧ b + 2 ≤ s4 ∧ g < qb)) (fun v15 _ => N - (intOf v15).toNat)
    case atStart => exact ⟨0, rfl, by omega, H60⟩
    case round =>
      obtain ⟨i, rfl, hiN, hst⟩ := hrel
      clear H60
      obtain ⟨x0, x1, z0, z1, xl, ⟨u0, u1, u2, u3, u4⟩⟩ := hst.out.1.o.cells HB1.out
      simp only at x0 x1
      by_cases hlt : i < N
      · obtain ⟨j, hj⟩ : ∃ j, q2 + i = j := ⟨_, rfl⟩
        have hji : (q2 : Int) + (i : Int) = (j : Int) := by omega
        have hjy : j < y := by omega
        have hjyi : (j : Int) < (y : Int) := by omega
        have hj0 : (0 : Int) ≤ (j : Int) := by omega
        have ho := hst.out.2.2.1
        obtain ⟨cur, hcur⟩ := own_heap ho (k := g) rfl
        have hgl := ho.lt g rfl
        have hsz : ∃ u, wr.cell? ⟨g, j, none⟩ = some u := by
          obtain ⟨ad2, e1, e2⟩ := (Rc.own ho).src (by omega)
          cases e1
          have hlen : j < (ints (putR x q2 i r)).length := by unfold ints; rw [List.length_map, HPL.out i hiN]; exact hjy
          exact ⟨_, by have h3 := e2 j _ (List.getElem?_eq_getElem hlen); rwa [add_lit, Nat.zero_add] at h3⟩
        obtain ⟨u, hcu⟩ := hsz
        have hfz := frozen_row hcur j
        have hgs := hgl.2
        have HN : Hid (OuT w b qb ⟨(q1 : Nat), (q2 : Nat)⟩ ⟨(q1 : Nat), (k1 : Nat)⟩ (wr.setCell ⟨g, j, none⟩ (.int .i32 r)) ∧ OwnL (fun k => b + 2 ≤ k ∧ k < s4) (wr.setCell ⟨g, j, none⟩ (.int .i32 r)) ta q1 tc (L.take q1) ∧ (wr.setCell ⟨g, j, none⟩ (.int .i32 r)).ownsRow s4 21 1 (.slice (some ⟨g, 0, none⟩) y yc) y (ints (putR x q2 (i + 1) r)) ∧ b + 2 ≤ s4 ∧ g < qb) := by
          obtain ⟨h1, h2, h3, h4, h5⟩ := hst.out
          refine ⟨h1.setg (by omega) h5 j _, h2.fr ((Fr.refl (fun k => k = g) wr).setCell ⟨g, j, none⟩ _ (fun _ => rfl)) (fun k hk e => by have := hk.2; omega), ?_, h4, h5⟩
          have h6 := own_set h3 (i := j) (by omega) (.int .i32 r)
          have h7 : (ints (putR x q2 i r)).set j (.int .i32 r) = ints (putR x q2 (i + 1) r) := by
            rw [← HPS.out i hlt, hj]
            unfold ints
            rw [List.map_set]
          rw [h7] at h6
          exact h6
        clear hst ho hcur hgl hj
        go_wp2_with fail
        go_roundw
        case rel => exact ⟨i + 1, by go_num, by omega, HN⟩
        case measure => simp [intOf]; omega
      · obtain rfl : i = N := by omega
        have hH := hdt_own hst.out.2.1 (fun k hk => hk.1)
        have hyt : RdT (b + 2) wr (some ⟨g, 0, none⟩) y yc (putR x q2 i r) := RdT.own (own_mono hst.out.2.2.1 hst.out.2.2.2.1) (by
          intro z hz
          unfold putR at hz
          rcases List.mem_append.1 hz with hz | hz
          · rcases List.mem_append.1 hz with hz | hz
            · exact HXW.out z (List.mem_of_mem_take hz)
            · rw [List.eq_of_mem_replicate hz]; exact HWR.out
          · exact HXW.out z (List.mem_of_mem_drop hz))
        obtain ⟨oa, oc, w8, hrun, hN8, hb8, hk8⟩ := hH.put1 hyt (by have := heap_lt hst.out.1.q; have := hst.out.1.lt; omega) (by omega)
        obtain ⟨on, hon⟩ : ∃ on, q1 + 1 = on := ⟨_, rfl⟩
        have hon6 : on ≤ 131072 := by omega
        rw [hon] at hrun hN8
        have HRUN3 := Lib.hid hrun
        have H8 : Hid (OuT w b qb ⟨(q1 : Nat), (q2 : Nat)⟩ ⟨(q1 : Nat), (k1 : Nat)⟩ w8 ∧ (∃ O, HdT (b + 2) w8 oa on oc O ∧ O ++ L.drop q3 = M) ∧ on ≤ 131072) := ⟨hst.out.1.keep hb8 hk8, ⟨_, hN8, HMA.out⟩, hon6⟩
        clear hst hH hyt hrun hN8 hb8 hk8 hon
        go_upto_region 19 with (at_builtin; go_must (with_reducible refine Lib.wpList_append_run _ rfl (.tmp 87) (.tmp 89) _ _ rfl _ _ rfl rfl _ _ (HRUN3.out _) ?_))
        clear x0 x1 z0 z1 xl u0 u1 u2 u3 u4 HRUN3
        obtain ⟨x0, x1, z0, z1, xl, ⟨u0, u1, u2, u3, u4⟩⟩ := H8.out.1.o.cells HB1.out
        simp only at x0 x1
        obtain ⟨v0, v1, y0, y1⟩ := row2 H8.out.1.q
        have vl := heap_lt H8.out.1.q
        obtain ⟨da, hda⟩ : ∃ da, (if c = q3 then some (⟨lb, lo, none⟩ : Addr) else some (⟨lb, lo + q3, none⟩ : Addr)) = da := ⟨_, rfl⟩
        have HR9 := HREST.out w8 oa on oc qb da hda H8
        go_upto_region 19 with fail
        go_cut [8, 10] (fun v8 v10 W => ∃ ra rn rc, v8 = .slice ra rn rc ∧ v10 = .int .i64 0 ∧ W.cell? ⟨b1, 0, none⟩ = some (.int .i64 (q1 : Nat)) ∧ W.cell? ⟨b1, 1, none⟩ = some (.int .i64 (k1 : Nat)) ∧ b1 < W.heap.size ∧ Hid (RdL (fun x => b ≤ x) W ra rn rc M ∧ Below b w W))
        case first =>
          by_cases hcq : c = q3
          · rw [if_pos hcq] at hda
            subst hda
            have hnq : n - q3 = 0 := by omega
            subst hcq
            simp only [Nat.sub_self, hnq] at HR9
            go_region_law (first
              | (go_simp; go_at_call 12; (first | refine (HR9.out _ (Or.inl rfl)).mono ?_ | refine (HR9.out _ (Or.inr rfl)).mono ?_); rintro e w9 ⟨ta, tc, rfl, ⟨x0, x1, z0, z1, xl, ⟨u0, u1, u2, u3, u4⟩⟩, ⟨v0, v1, vl⟩, a9, c9, wA, HRUN9, ⟨p0, p1, p2, p3, pl, ⟨t0, t1, t2, t3, t4⟩⟩, ⟨s0, s1, sl⟩, HN⟩)
              | (refine step_append_run rfl (.tmp 91) (.tmp 97) _ _ rfl _ _ (by simp [Act.eval, Act.put]) (by simp [Act.eval, Act.put]) (HRUN9.out _) ?_))
            all_goals
              go_wp2_with fail
              go_meet
              exact ⟨_, _, _, rfl, rfl, by go_simp, by go_simp, by go_simp, HN.out _ _⟩
          · rw [if_neg hcq] at hda
            subst hda
            go_region_law (first
              | (go_simp; go_at_call 12; (first | refine (HR9.out _ (Or.inl rfl)).mono ?_ | refine (HR9.out _ (Or.inr rfl)).mono ?_); rintro e w9 ⟨ta, tc, rfl, ⟨x0, x1, z0, z1, xl, ⟨u0, u1, u2, u3, u4⟩⟩, ⟨v0, v1, vl⟩, a9, c9, wA, HRUN9, ⟨p0, p1, p2, p3, pl, ⟨t0, t1, t2, t3, t4⟩⟩, ⟨s0, s1, sl⟩, HN⟩)
              | (refine step_append_run rfl (.tmp 91) (.tmp 97) _ _ rfl _ _ (by simp [Act.eval, Act.put]) (by simp [Act.eval, Act.put]) (HRUN9.out _) ?_))
            all_goals
              go_wp2_with fail
              go_meet
              exact ⟨_, _, _, rfl, rfl, by go_simp, by go_simp, by go_simp, HN.out _ _⟩
        case rest =>
          obtain ⟨ra, rn, rc, rfl, rfl, ee0, ee1, eel, HE⟩ := hcut
          go_step
          go_step
          refine bodyPost_ret (v := .tuple #[.slice ra rn rc, .agg #[.int .i64 (q1 : Nat), .int .i64 (k1 : Nat)], .int .i64 0]) ?_ rfl ⟨ra, rn, rc, HZV.out _ _ _ (), HE.out⟩
          rw [results_tct rfl]
          go_simp
          first | rfl | done
theorem roverK : OverK 31 := by
  intro F a n c L p r m w h hs hp hr hm
  by_cases hL : L = []
  · have hl := h.len
    rw [hL] at hl
    simp only [List.length_nil] at hl
    subst hl
    have ho : overR L p r m = ([], (0, 0), 2) := by unfold overR; rw [if_pos hL]
    rw [ho]
    refine (rover_none a c p r m w).mono ?_
    rintro e w' ⟨rfl, hb⟩
    exact ⟨none, 0, 0, rfl, RdL.none0 _ _, hb⟩
  · by_cases hR : ((lnL L (clipZ L p).1).length : Int) - ((clipZ L p).2 : Int) < max 1 m
    · have ho : overR L p r m = ([], (0, 0), 2) := by unfold overR; rw [if_neg hL, if_pos hR]
      rw [ho]
      refine (rover_no F a n c L p r m w h hp hm (by have := h.len; have := List.length_pos_iff.2 hL; omega) (by omega) hR).mono ?_
      rintro e w' ⟨rfl, hb⟩
      exact ⟨none, 0, 0, rfl, RdL.none0 _ _, hb⟩
    · exact rover_ok F a n c L p r m w h hs hL hp hr hm hR
end Go.Proofs.Ytfldjoiohejilaa.U
