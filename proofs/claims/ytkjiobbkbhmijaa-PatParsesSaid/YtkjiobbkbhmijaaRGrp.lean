/-
  The program's reader: a group.
-/
import Derived.Test.YtkjiobbkbhmijaaRAns
import Derived.Test.YtkjiobbkbhmijaaRTook
namespace Go.Proofs.Ytkjiobbkbhmijaa.U
open Go.RowKit
set_option linter.unusedVariables false
set_option linter.unusedSimpArgs false
set_option maxRecDepth 100000

/-- alternatives, as the reading of a group calls them -/
def AltsC (rec : Rec) (o : Nat) : Prop := ∀ (br : Nat) (p l : List Int) (n : Nat) (w : World), RdS w br p l n o → Calls Try.prog 27 #[.pointer (some ⟨br, 0, none⟩)] w (PaAns w br p o (rec l n o))
theorem RdS.room {w : World} {br : Nat} {p l : List Int} {n o : Nat} (h : RdS w br p l n o) : n + l.length ≤ p.length ∧ p.length ≤ 1000000 ∧ o ≤ 16 := by
  obtain ⟨a, cap, i, h1, h2, h3, h4, h5, h6, h7, h8⟩ := h
  rw [h4, List.length_drop]
  omega
def grpF (r : Rs (Re × List Int × Nat)) (n1 : Nat) : Rs (Re × List Int × Nat) :=
  match r with
  | .error e => .error e
  | .ok (x, l', n') => if pre [92, 41] l' then .ok (x.grp n1, l'.drop 2, n') else .error 10
theorem grpR_eq (rec : Rec) (l : List Int) (n o : Nat) (ho : ¬ o = 16) : grpR rec l n o = grpF (rec l (n + 1) (o + 1)) (n + 1) := by
  unfold grpR
  rw [if_neg ho]
  rfl
set_option maxHeartbeats 1000000 in
theorem grp_any (rec : Rec) (br : Nat) (p l : List Int) (n o : Nat) (w : World) (hrec : o < 16 → AltsC rec (o + 1)) (h : RdS w br p l n o) (hn : n + l.length + 1 ≤ p.length) :
    Calls Try.prog 56 #[.pointer (some ⟨br, 0, none⟩)] w (PaAns w br p o (grpR rec l n o)) := by
  have hlt := h.lt
  have hroom := h.room
  obtain ⟨w1, hw1⟩ : ∃ w1, w.alloc (.cells #[.int .i64 0, .int .i32 0, .slice none 0 0, .bool false, .int .i64 0, .int .i64 0, .slice none 0 0, .int .i64 0] 55) = w1 := ⟨_, rfl⟩
  have hb1 : Below w.heap.size w w1 := by rw [← hw1]; exact bal _ _
  have hg1 : w1.heap[w.heap.size]? = some (.cells #[.int .i64 0, .int .i32 0, .slice none 0 0, .bool false, .int .i64 0, .int .i64 0, .slice none 0 0, .int .i64 0] 55 (0, 0)) := by rw [← hw1]; exact heap_alloc_new w _
  have hr1 := h.below hb1
  obtain ⟨pa, cap, i, e0, e1, e2, e3, fz, -⟩ := hr1.cells
  have f2 := fz 2
  have f3 := fz 3
  obtain ⟨r0, hr0⟩ : ∃ r0, grpR rec l n o = r0 := ⟨_, rfl⟩
  rw [hr0]
  have HR0 := Lib.hid hr0
  have HG1 := Lib.hid hg1
  have HB1 := Lib.hid hb1
  have HW1 := Lib.hid hw1
  have HRD1 := Lib.hid hr1
  have HREC := Lib.hid hrec
  clear hg1 hb1 hw1 hr1 h fz hr0 hrec
  by_cases ho : o = 16
  · subst ho
    have hr : r0 = .error 12 := by rw [← HR0.out]; unfold grpR; rw [if_pos rfl]
    rw [hr]
    clear hr
    go_enter Try.func56, Try.ntmps56
    go_upto_region 1 with fail
    rw [HW1.out]
    go_wp2
    exact ⟨rfl, rfl, Fr.of_below _ HB1.out⟩
  · have ho1 : ((o : Int) == 16) = false := by simp; omega
    obtain ⟨o1, ho1d⟩ : ∃ o1, o + 1 = o1 := ⟨_, rfl⟩
    obtain ⟨n1, hn1d⟩ : ∃ n1, n + 1 = n1 := ⟨_, rfl⟩
    have k1 : (o : Int) + 1 = (o1 : Int) := by omega
    have k2 : (n : Int) + 1 = (n1 : Int) := by omega
    have k3 : (o1 : Int) - 1 = (o : Int) := by omega
    have kb1 : o1 ≤ 16 := by omega
    have kb2 : n1 ≤ 1000001 := by omega
    have hs1 := HRD1.out.setO (Below.refl _ w1) o1 kb1 (v := .int .i64 (o1 : Nat)) rfl
    have hs2 := hs1.1.setN (Below.refl _ _) n1 (by omega) (v := .int .i64 (n1 : Nat)) rfl
    have HS : Hid (RdS ((w1.setCell ⟨br, 3, none⟩ (.int .i64 (o1 : Nat))).setCell ⟨br, 2, none⟩ (.int .i64 (n1 : Nat))) br p l n1 o1 ∧ Fr (· = br) w1 ((w1.setCell ⟨br, 3, none⟩ (.int .i64 (o1 : Nat))).setCell ⟨br, 2, none⟩ (.int .i64 (n1 : Nat)))) := ⟨hs2.1, hs1.2.trans hs2.2 (fun _ _ h => h)⟩
    obtain ⟨w3, hw3⟩ : ∃ w3, (w1.setCell ⟨br, 3, none⟩ (.int .i64 (o1 : Nat))).setCell ⟨br, 2, none⟩ (.int .i64 (n1 : Nat)) = w3 := ⟨_, rfl⟩
    rw [hw3] at HS
    have HW3 := Lib.hid hw3
    have HALT : Hid (Calls Try.prog 27 #[.pointer (some ⟨br, 0, none⟩)] w3 (PaAns w3 br p o1 (rec l n1 o1))) := by
      have := HREC.out (by omega)
      rw [ho1d] at this
      exact this br p l n1 w3 HS.out.1
    clear hs1 hs2 hw3
    have hgr : r0 = grpF (rec l n1 o1) n1 := by rw [← HR0.out, grpR_eq rec l n o ho, ho1d, hn1d]
    cases hrr : rec l n1 o1 with
    | error c =>
      rw [hrr] at hgr HALT
      rw [hgr]
      clear hrr hgr
      go_enter Try.func56, Try.ntmps56
      go_upto_region 1 with fail
      rw [HW1.out]
      go_upto_region 6 with fail
      rw [HW3.out]
      go_wp2_with (go_at_call 27; refine HALT.out.mono ?_; intro e w4 h4; obtain ⟨he, hf4⟩ := h4; rw [errV] at he; subst he; have HF4 := Lib.hid hf4; clear hf4)
      exact ⟨rfl, rfl, fr_up (((Fr.of_below (fun k => k = br ∨ w.heap.size ≤ k) HB1.out).trans HS.out.2 (fun _ _ h => Or.inl h)).trans HF4.out (fun _ _ h => Or.inl h))⟩
    | ok q =>
      obtain ⟨x, l', n'⟩ := q
      rw [hrr] at hgr HALT
      have hgr : r0 = if pre [92, 41] l' then .ok (x.grp n1, l'.drop 2, n') else .error 10 := hgr
      rw [hgr]
      clear hrr hgr
      have HOPEN : Hid (∀ e w4, PaAns w3 br p o1 (.ok (x, l', n')) e w4 → ∃ k4 r4 sa4 sn4 sc4 nt4 l4 h4 pa4 pn4 pc4 w5, e = .returned (.agg #[.int .i64 k4, .int .i32 r4, .slice sa4 sn4 sc4, .bool nt4, .int .i64 l4, .int .i64 h4, .slice pa4 pn4 pc4, .int .i64 ((min x.sz 401 : Nat) : Int)]) ∧ w4.alloc (.cells #[.int .i64 k4, .int .i32 r4, .slice sa4 sn4 sc4, .bool nt4, .int .i64 l4, .int .i64 h4, .slice pa4 pn4 pc4, .int .i64 ((min x.sz 401 : Nat) : Int)] 55) = w5 ∧ Hid (RdS w5 br p l' n' o1) ∧
          Hid (PtAt (fun k => w.heap.size < k ∧ k < w4.heap.size) w5 [.int .i64 k4, .int .i32 r4, .slice sa4 sn4 sc4, .bool nt4, .int .i64 l4, .int .i64 h4, .slice pa4 pn4 pc4] x ∧ Fr (fun k => k = br ∨ w.heap.size < k) w1 w5 ∧ w5.heap[w4.heap.size]? = some (.cells #[.int .i64 k4, .int .i32 r4, .slice sa4 sn4 sc4, .bool nt4, .int .i64 l4, .int .i64 h4, .slice pa4 pn4 pc4, .int .i64 ((min x.sz 401 : Nat) : Int)] 55 (0, 0)) ∧ w.heap.size < w4.heap.size)) := by
        rintro e w4 ⟨v, rfl, h1, h2, h3⟩
        obtain ⟨k4, r4, sa4, sn4, sc4, nt4, l4, h4, pa4, pn4, pc4, rfl⟩ := h1.rev7
        have hb := bal w4 (.cells #[.int .i64 k4, .int .i32 r4, .slice sa4 sn4 sc4, .bool nt4, .int .i64 l4, .int .i64 h4, .slice pa4 pn4 pc4, .int .i64 ((min x.sz 401 : Nat) : Int)] 55)
        have hz1 := heap_lt HG1.out
        have hz3 := HS.out.2.size
        have hz4 := h3.size
        have hfw : Fr (fun k => k = br ∨ w.heap.size < k) w1 w4 := (HS.out.2.trans h3 (fun _ _ h => h)).mono (fun _ _ h => Or.inl h)
        exact ⟨k4, r4, sa4, sn4, sc4, nt4, l4, h4, pa4, pn4, pc4, _, rfl, rfl, h2.below hb, (h1.frF (Fr.of_below (fun _ => False) hb) (fun _ _ h => h)).mono (fun k hk => ⟨by have := hk.1; omega, hk.2⟩), hfw.trans (Fr.of_below (fun _ => False) hb) (fun _ _ h => h.elim), heap_alloc_new w4 _, by omega⟩
      have AL : True := trivial
      cases hp : pre [92, 41] l' with
      | false =>
        have HP := Lib.hid hp
        clear hp AL
        go_enter Try.func56, Try.ntmps56
        go_upto_region 1 with fail
        rw [HW1.out]
        go_upto_region 6 with fail
        rw [HW3.out]
        go_wp2_with (first
          | (go_at_call 27; refine HALT.out.mono ?_; intro e w4 hh; obtain ⟨k4, r4, sa4, sn4, sc4, nt4, l4, h4, pa4, pn4, pc4, w5, he, hw5, H4, H5⟩ := HOPEN.out e w4 hh; subst he; clear hh)
          | (go_at_call 33; refine (took2_no H4.out 92 41 HP.out (by decide) (by decide)).mono ?_; rintro e w6 ⟨rfl, H6⟩))
        refine ⟨rfl, rfl, fr_up ?_⟩
        exact ((Fr.of_below (fun k => k = br ∨ w.heap.size ≤ k) HB1.out).trans H5.out.2.1 (fun k _ h => h.elim Or.inl (fun h => Or.inr (by omega)))).trans (Fr.of_below (fun _ => False) H6.out) (fun _ _ h => h.elim)
      | true =>
        have HP := Lib.hid hp
        clear hp AL
        have HPUT : Hid (∀ (w4 w5 w6 : World) (vs : List Value), PtAt (fun k => w.heap.size < k ∧ k < w4.heap.size) w5 vs x → Fr (fun k => k = br ∨ w.heap.size < k) w1 w5 → Fr (· = br) w5 w6 → RdS w6 br p (l'.drop 2) n' o1 →
            ∃ w7, w6.setCell ⟨br, 3, none⟩ (.int .i64 (o : Nat)) = w7 ∧ w6.cell? ⟨br, 3, none⟩ = some (.int .i64 (o1 : Nat)) ∧ w6.frozen? ⟨br, 3, none⟩ = false ∧ Hid (PtAt (fun k => w.heap.size < k ∧ k < w4.heap.size) w7 vs x ∧ Fr (fun k => k = br ∨ w.heap.size < k) w1 w7 ∧ RdS w7 br p (l'.drop 2) n' o ∧ (∀ k, k < w5.heap.size → k ≠ br → w7.heap[k]? = w5.heap[k]?) ∧ w5.heap.size ≤ w7.heap.size)) := by
          intro w4 w5 w6 vs h1 h2 h3 h4
          obtain ⟨_, _, _, c0, c1, c2, c3, cz, -⟩ := h4.cells
          have hs := h4.setO (Below.refl _ w6) o (by omega) (v := .int .i64 (o : Nat)) rfl
          have h57 := h3.trans hs.2 (fun _ _ h => h)
          exact ⟨_, rfl, c3, cz 3, h1.frF h57 (fun k hk e => by omega), h2.trans h57 (fun _ _ h => Or.inl h), hs.1, fun k hk hne => h57.block k hk hne, h57.size⟩
        go_enter Try.func56, Try.ntmps56
        go_upto_region 1 with fail
        rw [HW1.out]
        go_upto_region 6 with fail
        rw [HW3.out]
        go_upto_region 10 with (first
          | (go_at_call 27; refine HALT.out.mono ?_; intro e w4 hh; obtain ⟨k4, r4, sa4, sn4, sc4, nt4, l4, h4, pa4, pn4, pc4, w5, he, hw5, H4, H5⟩ := HOPEN.out e w4 hh; subst he; clear hh)
          | (go_at_call 33; refine (took2_yes H4.out 92 41 HP.out (by decide) (by decide)).mono ?_; rintro e w6 ⟨rfl, H6⟩; obtain ⟨w7, hw7, c3, cz, H7⟩ := HPUT.out w4 w5 w6 _ H5.out.1 H5.out.2.1 H6.out.2 H6.out.1))
        have hz4 := H5.out.2.2.2
        have hGA := (H7.out.2.2.2.1 w4.heap.size (heap_lt H5.out.2.2.1) (by omega)).trans H5.out.2.2.1
        obtain ⟨p0, p1, p2, p3, p4, p5, p6, p7, -, -, -, -, -, -, -, -⟩ := row8 hGA
        have hz5 := heap_lt H5.out.2.2.1
        have hzR : w7.heap[w.heap.size]? = some (.cells #[.int .i64 0, .int .i32 0, .slice none 0 0, .bool false, .int .i64 0, .int .i64 0, .slice none 0 0, .int .i64 0] 55 (0, 0)) := by
          rw [H7.out.2.1.block _ (heap_lt HG1.out) (fun e => by omega)]
          exact HG1.out
        have HZR := Lib.hid hzR
        have HPT : Hid (ptV [.int .i64 k4, .int .i32 r4, .slice sa4 sn4 sc4, .bool nt4, .int .i64 l4, .int .i64 h4, .slice pa4 pn4 pc4] x = .agg #[.int .i64 k4, .int .i32 r4, .slice sa4 sn4 sc4, .bool nt4, .int .i64 l4, .int .i64 h4, .slice pa4 pn4 pc4, .int .i64 ((min x.sz 401 : Nat) : Int)]) := rfl
        have HGC : Hid (Calls Try.prog 57 #[.agg #[.int .i64 k4, .int .i32 r4, .slice sa4 sn4 sc4, .bool nt4, .int .i64 l4, .int .i64 h4, .slice pa4 pn4 pc4, .int .i64 ((min x.sz 401 : Nat) : Int)], .int .i64 (n1 : Nat)] w7 fun e w8 => ∃ k8 r8 sa8 sn8 sc8 nt8 l8 h8 pa8 pn8 pc8, e = .returned (.agg #[.int .i64 k8, .int .i32 r8, .slice sa8 sn8 sc8, .bool nt8, .int .i64 l8, .int .i64 h8, .slice pa8 pn8 pc8, .int .i64 ((min (x.grp n1).sz 401 : Nat) : Int)]) ∧ w8.heap[w.heap.size]? = some (.cells #[.int .i64 0, .int .i32 0, .slice none 0 0, .bool false, .int .i64 0, .int .i64 0, .slice none 0 0, .int .i64 0] 55 (0, 0)) ∧
            Hid (∀ W : World, Fr (fun j => j = w.heap.size) w8 W → PtAt (New w W) W [.int .i64 k8, .int .i32 r8, .slice sa8 sn8 sc8, .bool nt8, .int .i64 l8, .int .i64 h8, .slice pa8 pn8 pc8] (x.grp n1) ∧ RdS W br p (l'.drop 2) n' o ∧ Fr (· = br) w W)) := by
          have := group_any _ x _ n1 w7 H7.out.1 (fun k hk => by have := H7.out.2.2.2.2; omega)
          rw [HPT.out] at this
          refine this.mono ?_
          rintro e w8 ⟨v8, rfl, H8, hb8⟩
          obtain ⟨k8, r8, sa8, sn8, sc8, nt8, l8, h8, pa8, pn8, pc8, rfl⟩ := H8.out.rev7
          refine ⟨k8, r8, sa8, sn8, sc8, nt8, l8, h8, pa8, pn8, pc8, rfl, (hb8.block _ (heap_lt HZR.out)).trans HZR.out, fun W hW => ?_⟩
          have hz7 := H7.out.2.2.2.2
          have hz8 := hb8.size
          refine PaAns.put (w2 := w8) (by omega) ?_ (H8.out.mono (fun k hk => ?_)) (H7.out.2.2.1.below hb8) hlt hW
          · exact ((Fr.of_below (fun k => k = br ∨ w.heap.size ≤ k) HB1.out).trans H7.out.2.1 (fun k _ h => h.elim Or.inl (fun h => Or.inr (by omega)))).trans (Fr.of_below (fun _ => False) hb8) (fun _ _ h => h.elim)
          · rcases hk with hk | hk
            · omega
            · have := hk.1; have := hk.2; omega
        clear hGA hzR
        try rw [hw7]
        go_wp2_with (go_at_call 57; refine HGC.out.mono ?_; rintro e w8 ⟨k8, r8, sa8, sn8, sc8, nt8, l8, h8, pa8, pn8, pc8, rfl, hg8, HFIN⟩; obtain ⟨b0, b1, b2, b3, b4, b5, b6, b7, z0, z1, z2, z3, z4, z5, z6, z7⟩ := row8 hg8; have HG8 := Lib.hid hg8; clear hg8)
        have hput := put8 HG8.out (.int .i64 k8) (.int .i32 r8) (.slice sa8 sn8 sc8) (.bool nt8) (.int .i64 l8) (.int .i64 h8) (.slice pa8 pn8 pc8) (.int .i64 ((min (x.grp n1).sz 401 : Nat) : Int))
        have HEND := Lib.hid (HFIN.out _ hput.2)
        clear hput
        refine bodyPost_ret (v := .agg #[.int .i64 k8, .int .i32 r8, .slice sa8 sn8 sc8, .bool nt8, .int .i64 l8, .int .i64 h8, .slice pa8 pn8 pc8, .int .i64 ((min (x.grp n1).sz 401 : Nat) : Int)]) ?_ rfl ?_
        · rw [results_cell1 rfl]
          go_simp
        · with_reducible exact PaAns.ok (v := [.int .i64 k8, .int .i32 r8, .slice sa8 sn8 sc8, .bool nt8, .int .i64 l8, .int .i64 h8, .slice pa8 pn8 pc8]) rfl HEND.out
end Go.Proofs.Ytkjiobbkbhmijaa.U
