/-
  The program's reader: an atom.
-/
import Derived.Test.YtkjiobbkbhmijaaREsc
import Derived.Test.YtkjiobbkbhmijaaRSet
namespace Go.Proofs.Ytkjiobbkbhmijaa.U
open Go.RowKit
set_option linter.unusedVariables false
set_option linter.unusedSimpArgs false
set_option maxRecDepth 100000

theorem setR_form {l l' : List Int} {y : Re} (h : setR l = .ok (y, l')) : ∃ st nt, y = .mk 3 0 st nt 0 0 [] := by
  unfold setR at h
  have hB : ∀ nt l, setB nt l = .ok (y, l') → ∃ st nt, y = .mk 3 0 st nt 0 0 [] := by
    intro nt l h
    unfold setB at h
    split at h
    · cases h
    split at h
    · cases h
    · simp only [Except.ok.injEq, Prod.mk.injEq] at h
      exact ⟨_, _, h.1.symm⟩
  split at h
  · exact hB _ _ h
  · exact hB _ _ h

set_option maxHeartbeats 2000000 in
theorem atom_any (rec : Rec) (br : Nat) (p l : List Int) (c : Int) (n o : Nat) (w : World) (hrec : o < 16 → AltsC rec (o + 1)) (h : RdS w br p (c :: l) n o) :
    Calls Try.prog 44 #[.pointer (some ⟨br, 0, none⟩)] w (PaAns w br p o (atomR rec (c :: l) n o)) := by
  have hlt := h.lt
  obtain ⟨w1, hw1⟩ : ∃ w1, w.alloc (.cells #[.int .i64 0, .int .i32 0, .slice none 0 0, .bool false, .int .i64 0, .int .i64 0, .slice none 0 0, .int .i64 0] 55) = w1 := ⟨_, rfl⟩
  have hb1 : Below w.heap.size w w1 := by rw [← hw1]; exact bal _ _
  have hg1 : w1.heap[w.heap.size]? = some (.cells #[.int .i64 0, .int .i32 0, .slice none 0 0, .bool false, .int .i64 0, .int .i64 0, .slice none 0 0, .int .i64 0] 55 (0, 0)) := by rw [← hw1]; exact heap_alloc_new w _
  obtain ⟨r0, hr0⟩ : ∃ r0, atomR rec (c :: l) n o = r0 := ⟨_, rfl⟩
  rw [hr0]
  have HG1 := Lib.hid hg1
  have HB1 := Lib.hid hb1
  have HW1 := Lib.hid hw1
  have HREC := Lib.hid hrec
  have HNX : Hid (Calls Try.prog 49 #[.pointer (some ⟨br, 0, none⟩)] w1 fun e w' => e = .returned (.int .i32 c) ∧ Hid (RdS w' br p l n o ∧ Fr (· = br) w1 w')) := next_any br p l c n o w1 (h.below hb1)
  have HLF : Hid (∀ w2 w3 : World, Hid (RdS w2 br p l n o ∧ Fr (· = br) w1 w2) → Below w2.heap.size w2 w3 → Hid (w3.heap[w.heap.size]? = some (.cells #[.int .i64 0, .int .i32 0, .slice none 0 0, .bool false, .int .i64 0, .int .i64 0, .slice none 0 0, .int .i64 0] 55 (0, 0)) ∧
      ∀ (k r : Int) (hk : k ≠ 10) (W : World), Fr (fun j => j = w.heap.size) w3 W → PtAt (New w W) W [.int .i64 k, .int .i32 r, .slice none 0 0, .bool false, .int .i64 0, .int .i64 0, .slice none 0 0] (.mk k r [] false 0 0 []) ∧ RdS W br p l n o ∧ Fr (· = br) w W)) := by
    intro w2 w3 h2 hb
    have hs1 := heap_lt HG1.out
    have hs2 := h2.out.2.size
    have hs3 := hb.size
    refine ⟨by rw [hb.block _ (by omega), h2.out.2.block _ hs1 (fun e => by omega)]; exact HG1.out, fun k r hk W hW => ?_⟩
    refine PaAns.put (w2 := w3) (by omega) ?_ (PtAt.leaf _ _ k r hk) (h2.out.1.below hb) hlt hW
    exact ((Fr.of_below (fun k => k = br ∨ w.heap.size ≤ k) HB1.out).trans h2.out.2 (fun _ _ h => Or.inl h)).trans (Fr.of_below (fun _ => False) hb) (fun _ _ h => h.elim)
  clear hg1 hb1 hw1 h hrec
  by_cases h46 : c = 46
  · subst h46
    have HRES : Hid (r0 = .ok (.mk 2 0 [] false 0 0 [], l, n)) := by show _ = _; rw [← hr0]; rfl
    clear hr0
    go_enter Try.func44, Try.ntmps44
    go_upto_region 1 with fail
    rw [HW1.out]
    go_wp2_with (first
      | (go_at_call 49; refine (HNX.out).mono ?_; rintro e w2 ⟨rfl, H2⟩)
      | (go_at_call 41; refine (simple_any 2 0 none 0 0 false 0 0 none 0 0 _).mono ?_; rintro e w3 ⟨rfl, hb3⟩; have H3 := HLF.out _ _ H2 (by first | exact hb3 | (exact (bdrewN (Below.refl _ _) _).trans hb3)); obtain ⟨b0, b1, b2, b3, b4, b5, b6, b7, z0, z1, z2, z3, z4, z5, z6, z7⟩ := row8 H3.out.1; clear hb3))
    have hput := put8 H3.out.1 (.int .i64 2) (.int .i32 0) (.slice none 0 0) (.bool false) (.int .i64 0) (.int .i64 0) (.slice none 0 0) (.int .i64 1)
    have HEND := Lib.hid (H3.out.2 2 0 (by decide) _ hput.2)
    clear hput
    refine bodyPost_ret (v := .agg #[.int .i64 2, .int .i32 0, .slice none 0 0, .bool false, .int .i64 0, .int .i64 0, .slice none 0 0, .int .i64 1]) ?_ rfl ?_
    · rw [results_cell1 rfl]
      go_simp
    · rw [HRES.out]
      exact PaAns.ok (v := [.int .i64 2, .int .i32 0, .slice none 0 0, .bool false, .int .i64 0, .int .i64 0, .slice none 0 0]) (by rw [ptV_leaf 2 0 (by decide)]) HEND.out
  by_cases h91 : c = 91
  · subst h91
    have HRES : Hid (r0 = setN l n) := by show _ = _; rw [← hr0]; rfl
    clear hr0 h46
    cases hs : setR l with
    | error c =>
      replace HRES : Hid (r0 = .error c) := by show _ = _; rw [HRES.out]; unfold setN; rw [hs]
      have HSC : Hid (∀ w2 : World, Hid (RdS w2 br p l n o ∧ Fr (· = br) w1 w2) → Calls Try.prog 50 #[.pointer (some ⟨br, 0, none⟩)] w2 (SeAns w2 br p n o (.error c))) := fun w2 h2 => by have := set_any br p l n o w2 h2.out.1; rw [hs] at this; exact this
      clear hs
      go_enter Try.func44, Try.ntmps44
      go_upto_region 1 with fail
      rw [HW1.out]
      go_wp2_with (first
        | (go_at_call 49; refine (HNX.out).mono ?_; rintro e w2 ⟨rfl, H2⟩)
        | (go_at_call 50; refine (HSC.out w2 H2).mono ?_; intro e w4 h4; obtain ⟨he, hf4⟩ := h4; rw [errV] at he; subst he; have HF4 := Lib.hid hf4; clear hf4))
      refine ⟨rfl, ?_⟩
      rw [HRES.out]
      exact ⟨rfl, fr_up (((Fr.of_below (fun k => k = br ∨ w.heap.size ≤ k) HB1.out).trans H2.out.2 (fun _ _ h => Or.inl h)).trans HF4.out (fun _ _ h => Or.inl h))⟩
    | ok q =>
      obtain ⟨y, l'⟩ := q
      replace HRES : Hid (r0 = .ok (y, l', n)) := by show _ = _; rw [HRES.out]; unfold setN; rw [hs]
      obtain ⟨st, nt, hy⟩ := setR_form hs
      have hsz : y.sz = 1 := by rw [hy]; exact sz_simple 3 0 st nt 0 0 (by decide)
      have HSZ := Lib.hid hsz
      have HSC : Hid (∀ w2 : World, Hid (RdS w2 br p l n o ∧ Fr (· = br) w1 w2) → Calls Try.prog 50 #[.pointer (some ⟨br, 0, none⟩)] w2 (SeAns w2 br p n o (.ok (y, l')))) := fun w2 h2 => by have := set_any br p l n o w2 h2.out.1; rw [hs] at this; exact this
      have HOP : Hid (∀ (w2 w4 w5 : World) (k8 r8 : Int) (sa8 : Option Addr) (sn8 sc8 : Nat) (nt8 : Bool) (l8 h8 : Int) (pa8 : Option Addr) (pn8 pc8 : Nat), Hid (RdS w2 br p l n o ∧ Fr (· = br) w1 w2) → Hid (ReAt (New w2 w4) w4 [.int .i64 k8, .int .i32 r8, .slice sa8 sn8 sc8, .bool nt8, .int .i64 l8, .int .i64 h8, .slice pa8 pn8 pc8] y ∧ RdS w4 br p l' n o ∧ Fr (· = br) w2 w4) → Below w4.heap.size w4 w5 →
          w5.heap[w.heap.size]? = some (.cells #[.int .i64 0, .int .i32 0, .slice none 0 0, .bool false, .int .i64 0, .int .i64 0, .slice none 0 0, .int .i64 0] 55 (0, 0)) ∧ Hid (∀ W : World, Fr (fun j => j = w.heap.size) w5 W → PtAt (New w W) W [.int .i64 k8, .int .i32 r8, .slice sa8 sn8 sc8, .bool nt8, .int .i64 l8, .int .i64 h8, .slice pa8 pn8 pc8] y ∧ RdS W br p l' n o ∧ Fr (· = br) w W)) := by
        intro w2 w4 w5 k8 r8 sa8 sn8 sc8 nt8 l8 h8 pa8 pn8 pc8 h2 h4 hb5
        have hs1 := heap_lt HG1.out
        have hs2 := h2.out.2.size
        have hs4 := h4.out.2.2.size
        have hs5 := hb5.size
        refine ⟨by rw [hb5.block _ (by omega), h4.out.2.2.block _ (by omega) (fun e => by omega), h2.out.2.block _ hs1 (fun e => by omega)]; exact HG1.out, fun W hW => ?_⟩
        refine PaAns.put (w2 := w5) (by omega) ?_ ⟨fun _ => ?_, fun h => by have := HSZ.out; omega⟩ (h4.out.2.1.below hb5) hlt hW
        · exact (((Fr.of_below (fun k => k = br ∨ w.heap.size ≤ k) HB1.out).trans h2.out.2 (fun _ _ h => Or.inl h)).trans h4.out.2.2 (fun _ _ h => Or.inl h)).trans (Fr.of_below (fun _ => False) hb5) (fun _ _ h => h.elim)
        · exact ReAt.mono (fun k hk => ⟨by have := hk.1; omega, by have := hk.2; omega⟩) y (ReAt.frF (Fr.of_below (fun _ => False) hb5) (fun _ _ h => h) y h4.out.1)
      clear hs hy hsz
      go_enter Try.func44, Try.ntmps44
      go_upto_region 1 with fail
      rw [HW1.out]
      go_wp2_with (first
        | (go_at_call 49; refine (HNX.out).mono ?_; rintro e w2 ⟨rfl, H2⟩)
        | (go_at_call 50; refine (HSC.out w2 H2).mono ?_; intro e w4 hh; obtain ⟨k8, r8, sa8, sn8, sc8, nt8, l8, h8, pa8, pn8, pc8, he, h4⟩ := hh; subst he; have H4 := Lib.hid h4; clear h4)
        | (go_at_call 41; refine (simple_any k8 r8 sa8 sn8 sc8 nt8 l8 h8 pa8 pn8 pc8 _).mono ?_; rintro e w5 ⟨rfl, hb5⟩; obtain ⟨hg8, HFIN⟩ := HOP.out w2 w4 w5 k8 r8 sa8 sn8 sc8 nt8 l8 h8 pa8 pn8 pc8 H2 H4 hb5; obtain ⟨b0, b1, b2, b3, b4, b5, b6, b7, z0, z1, z2, z3, z4, z5, z6, z7⟩ := row8 hg8; have HG8 := Lib.hid hg8; clear hg8 hb5))
      have hput := put8 HG8.out (.int .i64 k8) (.int .i32 r8) (.slice sa8 sn8 sc8) (.bool nt8) (.int .i64 l8) (.int .i64 h8) (.slice pa8 pn8 pc8) (.int .i64 1)
      have HEND := Lib.hid (HFIN.out _ hput.2)
      clear hput
      refine bodyPost_ret (v := .agg #[.int .i64 k8, .int .i32 r8, .slice sa8 sn8 sc8, .bool nt8, .int .i64 l8, .int .i64 h8, .slice pa8 pn8 pc8, .int .i64 1]) ?_ rfl ?_
      · rw [results_cell1 rfl]
        go_simp
      · rw [HRES.out]
        exact PaAns.ok (v := [.int .i64 k8, .int .i32 r8, .slice sa8 sn8 sc8, .bool nt8, .int .i64 l8, .int .i64 h8, .slice pa8 pn8 pc8]) (by unfold ptV; rw [HSZ.out]; rfl) HEND.out
  by_cases h92 : c = 92
  · subst h92
    have HRES : Hid (r0 = escR rec l n o) := by show _ = _; rw [← hr0]; rfl
    clear hr0 h46 h91
    have HGC : Hid (∀ w2 : World, Hid (RdS w2 br p l n o ∧ Fr (· = br) w1 w2) → Calls Try.prog 51 #[.pointer (some ⟨br, 0, none⟩)] w2 (PaAns w2 br p o (escR rec l n o))) := fun w2 h2 => esc_any rec br p l n o w2 HREC.out h2.out.1
    cases hg : escR rec l n o with
    | error c =>
      rw [hg] at HGC HRES
      clear hg
      go_enter Try.func44, Try.ntmps44
      go_upto_region 1 with fail
      rw [HW1.out]
      go_wp2_with (first
        | (go_at_call 49; refine (HNX.out).mono ?_; rintro e w2 ⟨rfl, H2⟩)
        | (go_at_call 51; refine (HGC.out w2 H2).mono ?_; intro e w4 h4; obtain ⟨he, hf4⟩ := h4; rw [errV] at he; subst he; have HF4 := Lib.hid hf4; clear hf4))
      refine ⟨rfl, ?_⟩
      rw [HRES.out]
      exact ⟨rfl, fr_up (((Fr.of_below (fun k => k = br ∨ w.heap.size ≤ k) HB1.out).trans H2.out.2 (fun _ _ h => Or.inl h)).trans HF4.out (fun _ _ h => Or.inl h))⟩
    | ok r =>
      obtain ⟨x, l', n'⟩ := r
      rw [hg] at HGC HRES
      clear hg
      have HOP : Hid (∀ (w2 : World) (e : Ending) (w4 : World), Hid (RdS w2 br p l n o ∧ Fr (· = br) w1 w2) → PaAns w2 br p o (.ok (x, l', n')) e w4 → ∃ k8 r8 sa8 sn8 sc8 nt8 l8 h8 pa8 pn8 pc8, e = .returned (.agg #[.int .i64 k8, .int .i32 r8, .slice sa8 sn8 sc8, .bool nt8, .int .i64 l8, .int .i64 h8, .slice pa8 pn8 pc8, .int .i64 ((min x.sz 401 : Nat) : Int)]) ∧ w4.heap[w.heap.size]? = some (.cells #[.int .i64 0, .int .i32 0, .slice none 0 0, .bool false, .int .i64 0, .int .i64 0, .slice none 0 0, .int .i64 0] 55 (0, 0)) ∧
          Hid (∀ W : World, Fr (fun j => j = w.heap.size) w4 W → PtAt (New w W) W [.int .i64 k8, .int .i32 r8, .slice sa8 sn8 sc8, .bool nt8, .int .i64 l8, .int .i64 h8, .slice pa8 pn8 pc8] x ∧ RdS W br p l' n' o ∧ Fr (· = br) w W)) := by
        rintro w2 e w4 h2 ⟨v, rfl, h5, h6, h7⟩
        obtain ⟨k8, r8, sa8, sn8, sc8, nt8, l8, h8, pa8, pn8, pc8, rfl⟩ := h5.rev7
        have hs1 := heap_lt HG1.out
        have hs2 := h2.out.2.size
        have hs4 := h7.size
        refine ⟨k8, r8, sa8, sn8, sc8, nt8, l8, h8, pa8, pn8, pc8, rfl, by rw [h7.block _ (by omega) (fun e => by omega), h2.out.2.block _ hs1 (fun e => by omega)]; exact HG1.out, fun W hW => ?_⟩
        refine PaAns.put (w2 := w4) (by omega) ?_ (h5.mono (fun k hk => ⟨by have := hk.1; omega, hk.2⟩)) h6 hlt hW
        exact ((Fr.of_below (fun k => k = br ∨ w.heap.size ≤ k) HB1.out).trans h2.out.2 (fun _ _ h => Or.inl h)).trans h7 (fun _ _ h => Or.inl h)
      go_enter Try.func44, Try.ntmps44
      go_upto_region 1 with fail
      rw [HW1.out]
      go_wp2_with (first
        | (go_at_call 49; refine (HNX.out).mono ?_; rintro e w2 ⟨rfl, H2⟩)
        | (go_at_call 51; refine (HGC.out w2 H2).mono ?_; intro e w4 hh; obtain ⟨k8, r8, sa8, sn8, sc8, nt8, l8, h8, pa8, pn8, pc8, he, hg8, HFIN⟩ := HOP.out w2 e w4 H2 hh; subst he; clear hh; obtain ⟨b0, b1, b2, b3, b4, b5, b6, b7, z0, z1, z2, z3, z4, z5, z6, z7⟩ := row8 hg8; have HG8 := Lib.hid hg8; clear hg8))
      have hput := put8 HG8.out (.int .i64 k8) (.int .i32 r8) (.slice sa8 sn8 sc8) (.bool nt8) (.int .i64 l8) (.int .i64 h8) (.slice pa8 pn8 pc8) (.int .i64 ((min x.sz 401 : Nat) : Int))
      have HEND := Lib.hid (HFIN.out _ hput.2)
      clear hput
      refine bodyPost_ret (v := .agg #[.int .i64 k8, .int .i32 r8, .slice sa8 sn8 sc8, .bool nt8, .int .i64 l8, .int .i64 h8, .slice pa8 pn8 pc8, .int .i64 ((min x.sz 401 : Nat) : Int)]) ?_ rfl ?_
      · rw [results_cell1 rfl]
        go_simp
      · rw [HRES.out]
        exact PaAns.ok (v := [.int .i64 k8, .int .i32 r8, .slice sa8 sn8 sc8, .bool nt8, .int .i64 l8, .int .i64 h8, .slice pa8 pn8 pc8]) rfl HEND.out
  by_cases h36 : c = 36
  · subst h36
    cases hen : ended l with
    | true =>
      have HRES : Hid (r0 = .ok (.mk 5 0 [] false 0 0 [], l, n)) := by show _ = _; rw [← hr0]; simp only [atomR, hen]; rfl
      have HEN := Lib.hid hen
      clear hr0 h46 h91 h92 hen
      go_enter Try.func44, Try.ntmps44
      go_upto_region 1 with fail
      rw [HW1.out]
      go_wp2_with (first
        | (go_at_call 49; refine (HNX.out).mono ?_; rintro e w2 ⟨rfl, H2⟩)
        | (go_at_call 42; refine (ended_any br p l n o w2 H2.out.1).mono ?_; rw [HEN.out]; rintro e w2b ⟨rfl, hbe⟩; have H2b : Hid (RdS w2b br p l n o ∧ Fr (· = br) w1 w2b) := ⟨H2.out.1.below hbe, H2.out.2.trans (Fr.of_below _ hbe) (fun _ _ h => h)⟩; clear hbe)
        | (go_at_call 41; refine (simple_any 5 0 none 0 0 false 0 0 none 0 0 _).mono ?_; rintro e w3 ⟨rfl, hb3⟩; have H3 := HLF.out _ _ H2b (by first | exact hb3 | (exact (bdrewN (Below.refl _ _) _).trans hb3)); obtain ⟨b0, b1, b2, b3, b4, b5, b6, b7, z0, z1, z2, z3, z4, z5, z6, z7⟩ := row8 H3.out.1; clear hb3))
      have hput := put8 H3.out.1 (.int .i64 5) (.int .i32 0) (.slice none 0 0) (.bool false) (.int .i64 0) (.int .i64 0) (.slice none 0 0) (.int .i64 1)
      have HEND := Lib.hid (H3.out.2 5 0 (by decide) _ hput.2)
      clear hput
      refine bodyPost_ret (v := .agg #[.int .i64 5, .int .i32 0, .slice none 0 0, .bool false, .int .i64 0, .int .i64 0, .slice none 0 0, .int .i64 1]) ?_ rfl ?_
      · rw [results_cell1 rfl]
        go_simp
      · rw [HRES.out]
        exact PaAns.ok (v := [.int .i64 5, .int .i32 0, .slice none 0 0, .bool false, .int .i64 0, .int .i64 0, .slice none 0 0]) (by rw [ptV_leaf 5 0 (by decide)]) HEND.out
    | false =>
      have HRES : Hid (r0 = .ok (.mk 1 36 [] false 0 0 [], l, n)) := by show _ = _; rw [← hr0]; simp only [atomR, hen]; rfl
      have HEN := Lib.hid hen
      clear hr0 h46 h91 h92 hen
      go_enter Try.func44, Try.ntmps44
      go_upto_region 1 with fail
      rw [HW1.out]
      go_wp2_with (first
        | (go_at_call 49; refine (HNX.out).mono ?_; rintro e w2 ⟨rfl, H2⟩)
        | (go_at_call 42; refine (ended_any br p l n o w2 H2.out.1).mono ?_; rw [HEN.out]; rintro e w2b ⟨rfl, hbe⟩; have H2b : Hid (RdS w2b br p l n o ∧ Fr (· = br) w1 w2b) := ⟨H2.out.1.below hbe, H2.out.2.trans (Fr.of_below _ hbe) (fun _ _ h => h)⟩; clear hbe)
        | (go_at_call 52; refine (letter_any 36 _).mono ?_; rintro e w3 ⟨rfl, hb3⟩; have H3 := HLF.out _ _ H2b (by first | exact hb3 | (exact (bdrewN (Below.refl _ _) _).trans hb3)); obtain ⟨b0, b1, b2, b3, b4, b5, b6, b7, z0, z1, z2, z3, z4, z5, z6, z7⟩ := row8 H3.out.1; clear hb3))
      have hput := put8 H3.out.1 (.int .i64 1) (.int .i32 36) (.slice none 0 0) (.bool false) (.int .i64 0) (.int .i64 0) (.slice none 0 0) (.int .i64 1)
      have HEND := Lib.hid (H3.out.2 1 36 (by decide) _ hput.2)
      clear hput
      refine bodyPost_ret (v := .agg #[.int .i64 1, .int .i32 36, .slice none 0 0, .bool false, .int .i64 0, .int .i64 0, .slice none 0 0, .int .i64 1]) ?_ rfl ?_
      · rw [results_cell1 rfl]
        go_simp
      · rw [HRES.out]
        exact PaAns.ok (v := [.int .i64 1, .int .i32 36, .slice none 0 0, .bool false, .int .i64 0, .int .i64 0, .slice none 0 0]) (by rw [ptV_leaf 1 36 (by decide)]) HEND.out
  · have HRES : Hid (r0 = .ok (.mk 1 c [] false 0 0 [], l, n)) := by
      show _ = _
      rw [← hr0]
      unfold atomR
      simp only [if_neg h46, if_neg h91, if_neg h92, h36, false_and, if_false]
      rfl
    have t46 : (c == 46) = false := by simpa using h46
    have t91 : (c == 91) = false := by simpa using h91
    have t92 : (c == 92) = false := by simpa using h92
    have t36 : (c == 36) = false := by simpa using h36
    clear hr0 h46 h91 h92 h36
    go_enter Try.func44, Try.ntmps44
    go_upto_region 1 with fail
    rw [HW1.out]
    go_wp2_with (first
      | (go_at_call 49; refine (HNX.out).mono ?_; rintro e w2 ⟨rfl, H2⟩)
      | (go_at_call 52; refine (letter_any c _).mono ?_; rintro e w3 ⟨rfl, hb3⟩; have H3 := HLF.out _ _ H2 (by first | exact hb3 | (exact (bdrewN (Below.refl _ _) _).trans hb3)); obtain ⟨b0, b1, b2, b3, b4, b5, b6, b7, z0, z1, z2, z3, z4, z5, z6, z7⟩ := row8 H3.out.1; clear hb3))
    have hput := put8 H3.out.1 (.int .i64 1) (.int .i32 c) (.slice none 0 0) (.bool false) (.int .i64 0) (.int .i64 0) (.slice none 0 0) (.int .i64 1)
    have HEND := Lib.hid (H3.out.2 1 c (by decide) _ hput.2)
    clear hput
    refine bodyPost_ret (v := .agg #[.int .i64 1, .int .i32 c, .slice none 0 0, .bool false, .int .i64 0, .int .i64 0, .slice none 0 0, .int .i64 1]) ?_ rfl ?_
    · rw [results_cell1 rfl]
      go_simp
    · rw [HRES.out]
      exact PaAns.ok (v := [.int .i64 1, .int .i32 c, .slice none 0 0, .bool false, .int .i64 0, .int .i64 0, .slice none 0 0]) (by rw [ptV_leaf 1 c (by decide)]) HEND.out
end Go.Proofs.Ytkjiobbkbhmijaa.U
