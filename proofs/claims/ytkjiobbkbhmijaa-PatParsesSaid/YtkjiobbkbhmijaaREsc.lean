/-
  The program's reader: what stands behind a \ with which an atom begins.
-/
import Derived.Test.YtkjiobbkbhmijaaRGrp
namespace Go.Proofs.Ytkjiobbkbhmijaa.U
open Go.RowKit
set_option linter.unusedVariables false
set_option linter.unusedSimpArgs false
set_option maxRecDepth 100000

set_option maxHeartbeats 2000000 in
theorem esc_any (rec : Rec) (br : Nat) (p l : List Int) (n o : Nat) (w : World) (hrec : o < 16 → AltsC rec (o + 1)) (h : RdS w br p l n o) :
    Calls Try.prog 51 #[.pointer (some ⟨br, 0, none⟩)] w (PaAns w br p o (escR rec l n o)) := by
  have hlt := h.lt
  have hroom := h.room
  obtain ⟨w1, hw1⟩ : ∃ w1, w.alloc (.cells #[.int .i64 0, .int .i32 0, .slice none 0 0, .bool false, .int .i64 0, .int .i64 0, .slice none 0 0, .int .i64 0] 55) = w1 := ⟨_, rfl⟩
  have hb1 : Below w.heap.size w w1 := by rw [← hw1]; exact bal _ _
  have hg1 : w1.heap[w.heap.size]? = some (.cells #[.int .i64 0, .int .i32 0, .slice none 0 0, .bool false, .int .i64 0, .int .i64 0, .slice none 0 0, .int .i64 0] 55 (0, 0)) := by rw [← hw1]; exact heap_alloc_new w _
  have hr1 := h.below hb1
  obtain ⟨pa, cap, i, e0, e1, -, -, -, hr, -, hdr, hi, -⟩ := hr1.cells
  have hsm := hr.small
  obtain ⟨r0, hr0⟩ : ∃ r0, escR rec l n o = r0 := ⟨_, rfl⟩
  rw [hr0]
  have HG1 := Lib.hid hg1
  have HB1 := Lib.hid hb1
  have HW1 := Lib.hid hw1
  have HRD1 := Lib.hid hr1
  have HREC := Lib.hid hrec
  obtain ⟨q, hq⟩ : ∃ q, p.length = q := ⟨_, rfl⟩
  have hll : l.length = q - i := by rw [hdr, ← hq]; simp
  rw [hq] at e0 hi hsm hroom
  have HQ := Lib.hid hq
  clear hg1 hb1 hw1 hr1 h hrec hr hdr hq
  match l, hroom, hr0, HRD1, hll with
  | [], hroom, hr0, HRD1, hll =>
    have hres : r0 = .error 5 := by rw [← hr0]; rfl
    have HRES := Lib.hid hres
    simp only [List.length_nil] at hll
    have g2 : i = q := by omega
    subst g2
    have g1 : ((i : Int) == (i : Int)) = true := by simp
    clear hr0 hres hll hi
    go_enter Try.func51, Try.ntmps51
    go_upto_region 1 with fail
    rw [HW1.out]
    go_quiet (fail)
    go_wp2
    refine ⟨rfl, ?_⟩
    rw [HRES.out]
    exact ⟨rfl, (Fr.of_below _ HB1.out).trans (Fr.of_below (fun _ => False) (by first | exact Below.refl _ _ | exact bdrewN (Below.refl _ _) _)) (fun _ _ h => h.elim)⟩
  | c :: l1, hroom, hr0, HRD1, hll =>
    simp only [List.length_cons] at hll hroom
    have g1 : ((i : Int) == (q : Int)) = false := by simp; omega
    have HNX : Hid (∀ W : World, Below w1.heap.size w1 W → Calls Try.prog 49 #[.pointer (some ⟨br, 0, none⟩)] W fun e w' => e = .returned (.int .i32 c) ∧ Hid (RdS w' br p l1 n o ∧ Fr (· = br) w1 w')) := by
      intro W hW
      refine (next_any br p l1 c n o W (HRD1.out.below hW)).mono ?_
      rintro e w' ⟨rfl, h1, h2⟩
      exact ⟨rfl, h1, (Fr.of_below (· = br) hW).trans h2 (fun _ _ h => h)⟩
    have HLF : Hid (∀ w2 w3 : World, Hid (RdS w2 br p l1 n o ∧ Fr (· = br) w1 w2) → Below w2.heap.size w2 w3 → Hid (w3.heap[w.heap.size]? = some (.cells #[.int .i64 0, .int .i32 0, .slice none 0 0, .bool false, .int .i64 0, .int .i64 0, .slice none 0 0, .int .i64 0] 55 (0, 0)) ∧
        ∀ (k r : Int) (hk : k ≠ 10) (W : World), Fr (fun j => j = w.heap.size) w3 W → PtAt (New w W) W [.int .i64 k, .int .i32 r, .slice none 0 0, .bool false, .int .i64 0, .int .i64 0, .slice none 0 0] (.mk k r [] false 0 0 []) ∧ RdS W br p l1 n o ∧ Fr (· = br) w W)) := by
      intro w2 w3 h2 hb
      have hs1 := heap_lt HG1.out
      have hs2 := h2.out.2.size
      have hs3 := hb.size
      refine ⟨by rw [hb.block _ (by omega), h2.out.2.block _ hs1 (fun e => by omega)]; exact HG1.out, fun k r hk W hW => ?_⟩
      refine PaAns.put (w2 := w3) (by omega) ?_ (PtAt.leaf _ _ k r hk) (h2.out.1.below hb) hlt hW
      exact ((Fr.of_below (fun k => k = br ∨ w.heap.size ≤ k) HB1.out).trans h2.out.2 (fun _ _ h => Or.inl h)).trans (Fr.of_below (fun _ => False) hb) (fun _ _ h => h.elim)
    have hlt1 : n + l1.length + 1 ≤ p.length := by have := HQ.out; omega
    have HL1 := Lib.hid hlt1
    clear hlt1 hll hi hroom
    by_cases h40 : c = 40
    · subst h40
      have HRES : Hid (r0 = grpR rec l1 n o) := by show _ = _; rw [← hr0]; rfl
      clear hr0
      have HGC : Hid (∀ w2 : World, Hid (RdS w2 br p l1 n o ∧ Fr (· = br) w1 w2) → Calls Try.prog 56 #[.pointer (some ⟨br, 0, none⟩)] w2 (PaAns w2 br p o (grpR rec l1 n o))) := fun w2 h2 => grp_any rec br p l1 n o w2 HREC.out h2.out.1 HL1.out
      cases hg : grpR rec l1 n o with
      | error c =>
        rw [hg] at HGC HRES
        clear hg
        go_enter Try.func51, Try.ntmps51
        go_upto_region 1 with fail
        rw [HW1.out]
        go_quiet (fail)
        go_wp2_with (first
          | (go_at_call 49; refine (HNX.out _ (by first | exact Below.refl _ _ | exact bdrewN (Below.refl _ _) _)).mono ?_; rintro e w2 ⟨rfl, H2⟩)
          | (go_at_call 56; refine (HGC.out w2 H2).mono ?_; intro e w4 h4; obtain ⟨he, hf4⟩ := h4; rw [errV] at he; subst he; have HF4 := Lib.hid hf4; clear hf4))
        refine ⟨rfl, ?_⟩
        rw [HRES.out]
        exact ⟨rfl, fr_up (((Fr.of_below (fun k => k = br ∨ w.heap.size ≤ k) HB1.out).trans H2.out.2 (fun _ _ h => Or.inl h)).trans HF4.out (fun _ _ h => Or.inl h))⟩
      | ok r =>
        obtain ⟨x, l', n'⟩ := r
        rw [hg] at HGC HRES
        clear hg
        have HOP : Hid (∀ (w2 : World) (e : Ending) (w4 : World), Hid (RdS w2 br p l1 n o ∧ Fr (· = br) w1 w2) → PaAns w2 br p o (.ok (x, l', n')) e w4 → ∃ k8 r8 sa8 sn8 sc8 nt8 l8 h8 pa8 pn8 pc8, e = .returned (.agg #[.int .i64 k8, .int .i32 r8, .slice sa8 sn8 sc8, .bool nt8, .int .i64 l8, .int .i64 h8, .slice pa8 pn8 pc8, .int .i64 ((min x.sz 401 : Nat) : Int)]) ∧ w4.heap[w.heap.size]? = some (.cells #[.int .i64 0, .int .i32 0, .slice none 0 0, .bool false, .int .i64 0, .int .i64 0, .slice none 0 0, .int .i64 0] 55 (0, 0)) ∧
            Hid (∀ W : World, Fr (fun j => j = w.heap.size) w4 W → PtAt (New w W) W [.int .i64 k8, .int .i32 r8, .slice sa8 sn8 sc8, .bool nt8, .int .i64 l8, .int .i64 h8, .slice pa8 pn8 pc8] x ∧ RdS W br p l' n' o ∧ Fr (· = br) w W)) := by
          rintro w2 e w4 h2 ⟨v, rfl, h5, h6, h7⟩
          obtain ⟨k8, r8, sa8, sn8, sc8, nt8, l8, h8, pa8, pn8, pc8, rfl⟩ := h5.rev7
          have hs1 := heap_lt HG1.out
          have hs2 := h2.out.2.size
          have hs4 := h7.size
          refine ⟨k8, r8, sa8, sn8, sc8, nt8, l8, h8, pa8, pn8, pc8, rfl, by rw [h7.block _ (by omega) (fun e => by omega), h2.out.2.block _ hs1 (fun e => by omega)]; exact HG1.out, fun W hW => ?_⟩
          refine PaAns.put (w2 := w4) (by omega) ?_ (h5.mono (fun k hk => ⟨by have := hk.1; omega, hk.2⟩)) h6 hlt hW
          exact ((Fr.of_below (fun k => k = br ∨ w.heap.size ≤ k) HB1.out).trans h2.out.2 (fun _ _ h => Or.inl h)).trans h7 (fun _ _ h => Or.inl h)
        go_enter Try.func51, Try.ntmps51
        go_upto_region 1 with fail
        rw [HW1.out]
        go_quiet (fail)
        go_wp2_with (first
          | (go_at_call 49; refine (HNX.out _ (by first | exact Below.refl _ _ | exact bdrewN (Below.refl _ _) _)).mono ?_; rintro e w2 ⟨rfl, H2⟩)
          | (go_at_call 56; refine (HGC.out w2 H2).mono ?_; intro e w4 hh; obtain ⟨k8, r8, sa8, sn8, sc8, nt8, l8, h8, pa8, pn8, pc8, he, hg8, HFIN⟩ := HOP.out w2 e w4 H2 hh; subst he; clear hh; obtain ⟨b0, b1, b2, b3, b4, b5, b6, b7, z0, z1, z2, z3, z4, z5, z6, z7⟩ := row8 hg8; have HG8 := Lib.hid hg8; clear hg8))
        have hput := put8 HG8.out (.int .i64 k8) (.int .i32 r8) (.slice sa8 sn8 sc8) (.bool nt8) (.int .i64 l8) (.int .i64 h8) (.slice pa8 pn8 pc8) (.int .i64 ((min x.sz 401 : Nat) : Int))
        have HEND := Lib.hid (HFIN.out _ hput.2)
        clear hput
        refine bodyPost_ret (v := .agg #[.int .i64 k8, .int .i32 r8, .slice sa8 sn8 sc8, .bool nt8, .int .i64 l8, .int .i64 h8, .slice pa8 pn8 pc8, .int .i64 ((min x.sz 401 : Nat) : Int)]) ?_ rfl ?_
        · rw [results_cell1 rfl]
          go_simp
        · rw [HRES.out]
          exact PaAns.ok (v := [.int .i64 k8, .int .i32 r8, .slice sa8 sn8 sc8, .bool nt8, .int .i64 l8, .int .i64 h8, .slice pa8 pn8 pc8]) rfl HEND.out
    by_cases h60 : c = 60
    · subst h60
      have HRES : Hid (r0 = .ok (.mk 6 0 [] false 0 0 [], l1, n)) := by show _ = _; rw [← hr0]; rfl
      clear hr0 h40
      go_enter Try.func51, Try.ntmps51
      go_upto_region 1 with fail
      rw [HW1.out]
      go_quiet (fail)
      go_wp2_with (first
        | (go_at_call 49; refine (HNX.out _ (by first | exact Below.refl _ _ | exact bdrewN (Below.refl _ _) _)).mono ?_; rintro e w2 ⟨rfl, H2⟩)
        | (go_at_call 41; refine (simple_any 6 0 none 0 0 false 0 0 none 0 0 _).mono ?_; rintro e w3 ⟨rfl, hb3⟩; have H3 := HLF.out _ _ H2 (by first | exact hb3 | (exact (bdrewN (Below.refl _ _) _).trans hb3)); obtain ⟨b0, b1, b2, b3, b4, b5, b6, b7, z0, z1, z2, z3, z4, z5, z6, z7⟩ := row8 H3.out.1; clear hb3))
      have hput := put8 H3.out.1 (.int .i64 6) (.int .i32 0) (.slice none 0 0) (.bool false) (.int .i64 0) (.int .i64 0) (.slice none 0 0) (.int .i64 1)
      have HEND := Lib.hid (H3.out.2 6 0 (by decide) _ hput.2)
      clear hput
      refine bodyPost_ret (v := .agg #[.int .i64 6, .int .i32 0, .slice none 0 0, .bool false, .int .i64 0, .int .i64 0, .slice none 0 0, .int .i64 1]) ?_ rfl ?_
      · rw [results_cell1 rfl]
        go_simp
      · rw [HRES.out]
        exact PaAns.ok (v := [.int .i64 6, .int .i32 0, .slice none 0 0, .bool false, .int .i64 0, .int .i64 0, .slice none 0 0]) (by rw [ptV_leaf 6 0 (by decide)]) HEND.out
    by_cases h62 : c = 62
    · subst h62
      have HRES : Hid (r0 = .ok (.mk 7 0 [] false 0 0 [], l1, n)) := by show _ = _; rw [← hr0]; rfl
      clear hr0 h40 h60
      go_enter Try.func51, Try.ntmps51
      go_upto_region 1 with fail
      rw [HW1.out]
      go_quiet (fail)
      go_wp2_with (first
        | (go_at_call 49; refine (HNX.out _ (by first | exact Below.refl _ _ | exact bdrewN (Below.refl _ _) _)).mono ?_; rintro e w2 ⟨rfl, H2⟩)
        | (go_at_call 41; refine (simple_any 7 0 none 0 0 false 0 0 none 0 0 _).mono ?_; rintro e w3 ⟨rfl, hb3⟩; have H3 := HLF.out _ _ H2 (by first | exact hb3 | (exact (bdrewN (Below.refl _ _) _).trans hb3)); obtain ⟨b0, b1, b2, b3, b4, b5, b6, b7, z0, z1, z2, z3, z4, z5, z6, z7⟩ := row8 H3.out.1; clear hb3))
      have hput := put8 H3.out.1 (.int .i64 7) (.int .i32 0) (.slice none 0 0) (.bool false) (.int .i64 0) (.int .i64 0) (.slice none 0 0) (.int .i64 1)
      have HEND := Lib.hid (H3.out.2 7 0 (by decide) _ hput.2)
      clear hput
      refine bodyPost_ret (v := .agg #[.int .i64 7, .int .i32 0, .slice none 0 0, .bool false, .int .i64 0, .int .i64 0, .slice none 0 0, .int .i64 1]) ?_ rfl ?_
      · rw [results_cell1 rfl]
        go_simp
      · rw [HRES.out]
        exact PaAns.ok (v := [.int .i64 7, .int .i32 0, .slice none 0 0, .bool false, .int .i64 0, .int .i64 0, .slice none 0 0]) (by rw [ptV_leaf 7 0 (by decide)]) HEND.out
    by_cases h123 : c = 123
    · subst h123
      have HRES : Hid (r0 = .error 11) := by show _ = _; rw [← hr0]; rfl
      clear hr0 h40 h60 h62
      go_enter Try.func51, Try.ntmps51
      go_upto_region 1 with fail
      rw [HW1.out]
      go_quiet (fail)
      go_wp2_with (go_at_call 49; refine (HNX.out _ (by first | exact Below.refl _ _ | exact bdrewN (Below.refl _ _) _)).mono ?_; rintro e w2 ⟨rfl, H2⟩)
      refine ⟨rfl, ?_⟩
      rw [HRES.out]
      exact ⟨rfl, fr_up ((Fr.of_below (fun k => k = br ∨ w.heap.size ≤ k) HB1.out).trans H2.out.2 (fun _ _ h => Or.inl h))⟩
    by_cases h125 : c = 125
    · subst h125
      have HRES : Hid (r0 = .error 10) := by show _ = _; rw [← hr0]; rfl
      clear hr0 h40 h60 h62 h123
      go_enter Try.func51, Try.ntmps51
      go_upto_region 1 with fail
      rw [HW1.out]
      go_quiet (fail)
      go_wp2_with (go_at_call 49; refine (HNX.out _ (by first | exact Below.refl _ _ | exact bdrewN (Below.refl _ _) _)).mono ?_; rintro e w2 ⟨rfl, H2⟩)
      refine ⟨rfl, ?_⟩
      rw [HRES.out]
      exact ⟨rfl, fr_up ((Fr.of_below (fun k => k = br ∨ w.heap.size ≤ k) HB1.out).trans H2.out.2 (fun _ _ h => Or.inl h))⟩
    · have HRES : Hid (r0 = .ok (.mk 1 c [] false 0 0 [], l1, n)) := by
        show _ = _
        rw [← hr0]
        unfold escR
        simp only [if_neg h40, if_neg h60, if_neg h62, if_neg h123, if_neg h125]
        rfl
      have t40 : (c == 40) = false := by simpa using h40
      have t60 : (c == 60) = false := by simpa using h60
      have t62 : (c == 62) = false := by simpa using h62
      have t123 : (c == 123) = false := by simpa using h123
      have t125 : (c == 125) = false := by simpa using h125
      clear hr0 h40 h60 h62 h123 h125
      go_enter Try.func51, Try.ntmps51
      go_upto_region 1 with fail
      rw [HW1.out]
      go_quiet (fail)
      go_wp2_with (first
        | (go_at_call 49; refine (HNX.out _ (by first | exact Below.refl _ _ | exact bdrewN (Below.refl _ _) _)).mono ?_; rintro e w2 ⟨rfl, H2⟩)
        | (go_at_call 52; refine (letter_any c _).mono ?_; rintro e w3 ⟨rfl, hb3⟩; have H3 := HLF.out _ _ H2 (by first | exact hb3 | (exact (bdrewN (Below.refl _ _) _).trans hb3)); obtain ⟨b0, b1, b2, b3, b4, b5, b6, b7, z0, z1, z2, z3, z4, z5, z6, z7⟩ := row8 H3.out.1; clear hb3))
      have hput := put8 H3.out.1 (.int .i64 1) (.int .i32 c) (.slice none 0 0) (.bool false) (.int .i64 0) (.int .i64 0) (.slice none 0 0) (.int .i64 1)
      have HEND := Lib.hid (H3.out.2 1 c (by decide) _ hput.2)
      clear hput
      refine bodyPost_ret (v := .agg #[.int .i64 1, .int .i32 c, .slice none 0 0, .bool false, .int .i64 0, .int .i64 0, .slice none 0 0, .int .i64 1]) ?_ rfl ?_
      · rw [results_cell1 rfl]
        go_simp
      · rw [HRES.out]
        exact PaAns.ok (v := [.int .i64 1, .int .i32 c, .slice none 0 0, .bool false, .int .i64 0, .int .i64 0, .slice none 0 0]) (by rw [ptV_leaf 1 c (by decide)]) HEND.out
end Go.Proofs.Ytkjiobbkbhmijaa.U
