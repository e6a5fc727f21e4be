/-
  The contract of Replace.
-/
import Derived.Test.YtndlebopfojjeaaTStr
namespace Go.Proofs.Ytndlebopfojjeaa.U
open Go.RowKit
set_option linter.unusedVariables false
set_option linter.unusedSimpArgs false
set_option maxRecDepth 100000

def repL (L : List (List Int)) (k n : Nat) (M : List (List Int)) : List (List Int) := normL (L.take k ++ (M ++ L.drop (k + n)))
def repT (L : List (List Int)) (i n : Int) (M : List (List Int)) : List (List Int) × Int :=
  if 0 ≤ i ∧ 0 ≤ n ∧ n ≤ (L.length : Int) - i then (if M.any has10 then (L, 1) else (if 65536 < (joinL (repL L i.toNat n.toNat M)).length then (L, 3) else (repL L i.toNat n.toNat M, 0))) else (L, 2)

theorem glue_last : ∀ (M : List (List Int)) (y : List Int), glue [] (M ++ [[]]) y = M ++ [y]
  | [], y => by simp [glue]
  | [m], y => by simp [glue]
  | m :: n :: r, y => by
    have h := glue_last (n :: r) y
    simp only [List.cons_append, glue, List.nil_append] at h ⊢
    rw [h]
theorem glue_plain0 : ∀ (M : List (List Int)), glue [] M [] = M
  | [] => rfl
  | [m] => by simp [glue]
  | m :: n :: r => by
    have h := glue_plain0 (n :: r)
    simp only [glue, List.nil_append] at h ⊢
    rw [h]
theorem glue_first (x : List Int) : ∀ (M : List (List Int)), glue x ([] :: M) [] = x :: M
  | [] => by simp [glue]
  | m :: r => by
    rw [glue, glue_plain0, List.append_nil]
theorem normL_of {L : List (List Int)} (h : L ≠ []) : normL L = L := if_neg h
theorem normL_len (L : List (List Int)) : (joinL (normL L)).length + 1 = max 1 (sizeN (lens L)) := by
  rw [joinL_len (normL_ne L)]
  unfold normL
  split
  · next e => subst e; simp [lens, sizeN_cons, sizeN_nil]
  · next e =>
    have : 0 < L.length := List.length_pos_iff.2 e
    have h2 := sizeN_sum (lens L)
    rw [lens_len] at h2
    omega
theorem rep_size (L : List (List Int)) (k n : Nat) (M : List (List Int)) (hne : L ≠ []) (hkn : k + n ≤ L.length) :
    (65536 : Int) < ((joinL L).length : Int) - ((sizeN ((lens L).take (k + n)) : Int) - (sizeN ((lens L).take k) : Int)) + (sizeN (lens M) : Int) ↔ 65536 < (joinL (repL L k n M)).length := by
  have h1 := joinL_len hne
  have h2 := normL_len (L.take k ++ (M ++ L.drop (k + n)))
  rw [lens_append, lens_append, sizeN_append, sizeN_append, lens_take, lens_drop] at h2
  have h3 : sizeN ((lens L).take (k + n)) + sizeN ((lens L).drop (k + n)) = sizeN (lens L) := by rw [← sizeN_append, List.take_append_drop]
  unfold repL
  omega
theorem off_last {L : List (List Int)} (h : L ≠ []) : offN L (L.length - 1) (L.getLast h).length = (joinL L).length := by
  have h1 := last_at h
  have h3 := (row_cut h1 (Nat.le_refl _)).2
  have h4 := off_le h1 (Nat.le_refl _)
  rw [List.drop_length, List.nil_append, show L.length - 1 + 1 = L.length from by have := List.length_pos_iff.2 h; omega, List.drop_length, joinE_nil] at h3
  have h5 := congrArg List.length h3
  simp only [List.length_append, List.length_drop, List.length_cons, List.length_nil] at h5
  unfold offN
  omega
theorem plain_snoc {M : List (List Int)} (h : plainL M) : plainL (M ++ [[]]) := by
  intro z hz
  rcases List.mem_append.1 hz with hz | hz
  · exact h z hz
  · simp at hz; subst hz; simp
theorem plain_norm {M : List (List Int)} (h : plainL M) : plainL (normL M) := by
  unfold normL
  split
  · intro z hz; simp at hz; subst hz; simp
  · exact h

/-- stretch, told by what swap makes of it -/
theorem str_any (P G : Nat → Prop) (bt ng k n : Nat) (L M : List (List Int)) (la : Option Addr) (ln lc : Nat) (w : World) (h : TX P w bt L ng) (hr : RdL G w la ln lc M) (hkn : k + n ≤ L.length) (hln : ln ≤ 1048576) (hG : ∀ k, G k → k < w.heap.size) :
    ∃ (i c j d : Nat) (x y : List Int) (M' : List (List Int)), L[i]? = some x ∧ c ≤ x.length ∧ L[j]? = some y ∧ d ≤ y.length ∧ offN L i c ≤ offN L j d ∧ M' ≠ [] ∧ (plainL M → plainL M') ∧ swapL L i (x.take c) j (y.drop d) M' = repL L k n M ∧
      Calls Try.prog 51 #[.pointer (some ⟨bt, 0, none⟩), .int .i64 (k : Nat), .int .i64 (n : Nat), .slice la ln lc] w (StrPost w G i c j d M') := by
  have hne := h.ne
  have hpos := h.pos
  have hlast := last_at hne
  have hol := off_last hne
  by_cases h1 : k + n < L.length
  · obtain ⟨x, hx⟩ : ∃ x, L[k]? = some x := ⟨L[k], List.getElem?_eq_getElem (by omega)⟩
    have hy : L[k + n]? = some L[k + n] := List.getElem?_eq_getElem h1
    refine ⟨k, 0, k + n, 0, x, L[k + n], M ++ [[]], hx, Nat.zero_le _, hy, Nat.zero_le _, ?_, by simp, plain_snoc, ?_, str_mid P G bt ng k n L M la ln lc w h hr h1 hln hG⟩
    · unfold offN
      have : sizeN ((lens L).take k) ≤ sizeN ((lens L).take (k + n)) := by
        have := sizeN_take_le ((lens L).take (k + n)) k
        rwa [List.take_take, Nat.min_eq_left (by omega)] at this
      omega
    · unfold swapL repL
      rw [List.take_zero, List.drop_zero, glue_last, List.append_assoc, List.cons_append, List.nil_append, ← List.drop_eq_getElem_cons h1, normL_of]
      intro e
      have e2 := congrArg List.length e
      simp at e2
      omega
  · have he : k + n = L.length := by omega
    cases k with
    | zero =>
      obtain rfl : n = L.length := by omega
      obtain ⟨x, hx⟩ : ∃ x, L[0]? = some x := ⟨L[0], List.getElem?_eq_getElem (by omega)⟩
      refine ⟨0, 0, L.length - 1, (L.getLast hne).length, x, L.getLast hne, normL M, hx, Nat.zero_le _, hlast, Nat.le_refl _, ?_, normL_ne M, plain_norm, ?_, str_all P G bt ng L M (L.getLast hne) la ln lc w h hr hlast hG⟩
      · rw [hol]; exact off_le hx (Nat.zero_le _)
      · unfold swapL repL
        simp only [List.drop_length, List.take_zero, glue_plain0, show L.length - 1 + 1 = L.length from by omega, Nat.zero_add, List.nil_append, List.append_nil]
    | succ k =>
      obtain ⟨x, hx⟩ : ∃ x, L[k]? = some x := ⟨L[k], List.getElem?_eq_getElem (by omega)⟩
      refine ⟨k, x.length, L.length - 1, (L.getLast hne).length, x, L.getLast hne, [] :: M, hx, Nat.le_refl _, hlast, Nat.le_refl _, ?_, by simp, fun hp z hz => ?_, ?_, str_end P G bt ng k n L M x (L.getLast hne) la ln lc w h hr (by omega) hx hlast hln hG⟩
      · rw [hol]; exact off_le hx (Nat.le_refl _)
      · rcases List.mem_cons.1 hz with rfl | hz
        · simp
        · exact hp z hz
      · unfold swapL repL
        rw [List.drop_length, List.take_length, glue_first, show L.length - 1 + 1 = L.length from by omega, he, List.drop_length, normL_of]
        · obtain ⟨hk, hxe⟩ := List.getElem?_eq_some_iff.1 hx
          rw [List.take_succ_eq_append_getElem hk, hxe]
          simp
        · intro e
          have e2 := congrArg List.length (List.append_eq_nil_iff.1 e).1
          rw [List.length_take, List.length_nil] at e2
          omega

set_option maxHeartbeats 4000000 in
theorem replaceT_err (P G : Nat → Prop) (bt ng : Nat) (L M : List (List Int)) (i n : Int) (la : Option Addr) (ln lc : Nat) (w : World) (h : TX P w bt L ng) (hib : i64b i) (hnb : i64b n) (hbad : ¬ (0 ≤ i ∧ 0 ≤ n ∧ n ≤ (L.length : Int) - i)) :
    Calls Try.prog 30 #[.pointer (some ⟨bt, 0, none⟩), .int .i64 i, .int .i64 n, .slice la ln lc] w fun e w' => e = .returned (.int .i64 2) ∧ w = w' := by
  have hcn := h.count
  obtain ⟨tt, F, a, nb, c, ps, c0, c2, hlt, hlb, hfl, F1, np, hts⟩ := h.open_
  obtain ⟨N, hN⟩ : ∃ N, L.length = N := ⟨_, rfl⟩
  rw [hN] at c2 hbad hcn
  unfold i64b at hib hnb
  clear hlb hfl hts h hN c0
  by_cases h0 : i < 0
  · have t1 : decide (i < 0) = true := by simp; exact h0
    go_enter Try.func30, Try.ntmps30
    go_wp2_with fail
    go_ret
    exact ⟨rfl, rfl⟩
  · have t1 : decide (i < 0) = false := by simp; omega
    by_cases h1 : n < 0
    · have t2 : decide (n < 0) = true := by simp; exact h1
      go_enter Try.func30, Try.ntmps30
      go_wp2_with fail
      go_ret
      exact ⟨rfl, rfl⟩
    · have t2 : decide (n < 0) = false := by simp; omega
      have t3 : (N : Int) - i < n := by omega
      have t4 : IntKind.i64.wrap ((N : Int) - i) = (N : Int) - i := by rw [IntKind.wrap_i64]; omega
      go_enter Try.func30, Try.ntmps30
      go_wp2_with fail
      go_ret
      exact ⟨rfl, rfl⟩

set_option maxHeartbeats 8000000 in
theorem replaceT_in (P G : Nat → Prop) (bt ng k n : Nat) (L M : List (List Int)) (la : Option Addr) (ln lc : Nat) (w : World) (h : TX P w bt L ng) (hr : RdL G w la ln lc M) (hkn : k + n ≤ L.length) (hG : ∀ k, G k → k < w.heap.size ∧ ¬ P k) (hms : sizeN (lens M) ≤ 4611686018427387904) (hng : ng + 131072 ≤ lim) :
    Calls Try.prog 30 #[.pointer (some ⟨bt, 0, none⟩), .int .i64 (k : Nat), .int .i64 (n : Nat), .slice la ln lc] w fun e w' => e = .returned (.int .i64 (repT L k n M).2) ∧ AfT P w bt (repT L k n M).1 (ng + 65536) w' := by
  have hcn := h.count
  have hrow := h.row
  have hlsm := hr.small
  have hml := hr.len
  have hrs := rep_size L k n M h.ne hkn
  have H := Lib.hid h
  have HRD := Lib.hid hr
  have HHE := Lib.hid (haveEnd_any G la ln lc M w hr)
  have hif : (0 ≤ (k : Int) ∧ 0 ≤ (n : Int) ∧ (n : Int) ≤ (L.length : Int) - (k : Int)) := by omega
  have HF : Hid (∀ w', Below w.heap.size w w' → AfT P w bt L (ng + 65536) w') := fun w' hb => AfT.same h hb (by omega)
  unfold repT
  rw [if_pos hif, Int.toNat_natCast, Int.toNat_natCast]
  obtain ⟨tt, F, ba, nb, bc, ps, c0, c2, hlt, hlb, hfl, F1, np, hts⟩ := h.open_
  unfold ifv at c0
  obtain ⟨N, hN⟩ : ∃ N, L.length = N := ⟨_, rfl⟩
  have t1 : decide ((k : Int) < 0) = false := by simp
  have t1' : ¬ ((k : Int) < 0) := by omega
  have t2 : decide ((n : Int) < 0) = false := by simp
  have t2' : ¬ ((n : Int) < 0) := by omega
  rw [hN] at c2 hcn
  have t3 : ¬ ((N : Int) - (k : Int) < (n : Int)) := by omega
  have t4 : IntKind.i64.wrap ((N : Int) - (k : Int)) = (N : Int) - (k : Int) := by rw [IntKind.wrap_i64]; omega
  cases hany : M.any has10 with
  | true =>
    rw [hany] at HHE
    rw [if_pos rfl]
    clear H HRD hlb hfl hts h hr hif hrs hN hml hms hkn hrow
    go_enter Try.func30, Try.ntmps30
    go_wp2_with fail
    refine HHE.out.mono ?_
    rintro e w1 ⟨rfl, rfl⟩
    have HF2 := Lib.hid (HF.out w (Below.refl _ _))
    go_wp2_with fail
    go_ret
    exact ⟨rfl, HF2.out⟩
  | false =>
    rw [hany] at HHE
    rw [if_neg (by simp)]
    have hplain := plain_iff.1 hany
    obtain ⟨S1, hS1⟩ : ∃ S1, sizeN ((lens L).take k) = S1 := ⟨_, rfl⟩
    obtain ⟨S2, hS2⟩ : ∃ S2, sizeN ((lens L).take (k + n)) = S2 := ⟨_, rfl⟩
    obtain ⟨Z, hZ⟩ : ∃ Z, sizeN (lens M) = Z := ⟨_, rfl⟩
    have hs1 : S1 ≤ 65537 := by have := sizeN_take_le (lens L) k; have := h.size; omega
    have hs2 : S2 ≤ 65537 := by have := sizeN_take_le (lens L) (k + n); have := h.size; omega
    have hs12 : S1 ≤ S2 := by
      have := sizeN_take_le ((lens L).take (k + n)) k
      rw [List.take_take, Nat.min_eq_left (by omega)] at this
      omega
    have hs2r : S2 ≤ (joinL L).length + 1 := by have := sizeN_take_le (lens L) (k + n); have := joinL_len h.ne; omega
    have HLN : Hid (∀ W (i s : Nat), Below w.heap.size w W → i ≤ N → sizeN ((lens L).take i) = s → Calls Try.prog 37 #[.pointer (some ⟨bt, 1, none⟩), .int .i64 (i : Nat)] W fun e w' => ∃ q : Nat, e = .returned (.tuple #[.int .i64 (s : Nat), .int .i64 (q : Nat)]) ∧ Below W.heap.size W w') := by
      intro W i s hW hi hs
      have := tline_any F bt ba nb bc ps L.length i W (hlb.below hW) (by omega)
      rw [hfl, hs] at this
      refine this.mono ?_
      rintro e w' ⟨rfl, hbb⟩
      exact ⟨_, rfl, hbb⟩
    have HL1 := Lib.hid (HLN.out w k S1 (Below.refl _ _) (by omega) hS1)
    have HL2 : Hid (∀ W, Below w.heap.size w W → Calls Try.prog 37 #[.pointer (some ⟨bt, 1, none⟩), .int .i64 ((k : Int) + (n : Int))] W fun e w' => ∃ q : Nat, e = .returned (.tuple #[.int .i64 (S2 : Nat), .int .i64 (q : Nat)]) ∧ Below W.heap.size W w') := by
      intro W hW
      have := HLN.out W (k + n) S2 hW (by omega) hS2
      rw [Int.natCast_add] at this
      exact this
    have HLEN : Hid (∀ W, Below w.heap.size w W → Calls Try.prog 105 #[.pointer (some ⟨tt, 0, none⟩)] W fun e w' => e = .returned (.int .i64 ((joinL L).length : Nat)) ∧ W = w') := fun W hW => ts_len _ _ _ _ _ _ W (hts.below hW)
    have HSZ : Hid (∀ W, Below w.heap.size w W → Calls Try.prog 40 #[.slice la ln lc] W fun e w' => e = .returned (.int .i64 (Z : Nat)) ∧ W = w') := by
      intro W hW
      have := sizeOf_any G la ln lc M W (hr.below hW) (by omega)
      rw [hZ] at this
      exact this
    obtain ⟨R, hR⟩ : ∃ R, (joinL L).length = R := ⟨_, rfl⟩
    rw [hR] at HLEN hrow hs2r
    rw [hR, hS1, hS2, hZ] at hrs
    rw [hZ] at hms
    have q1 : IntKind.i64.wrap ((k : Int) + (n : Int)) = (k : Int) + (n : Int) := by rw [IntKind.wrap_i64]; omega
    have q2 : IntKind.i64.wrap ((S2 : Int) - (S1 : Int)) = (S2 : Int) - (S1 : Int) := by rw [IntKind.wrap_i64]; omega
    have q3 : IntKind.i64.wrap ((R : Int) - ((S2 : Int) - (S1 : Int))) = (R : Int) - ((S2 : Int) - (S1 : Int)) := by rw [IntKind.wrap_i64]; omega
    have q4 : IntKind.i64.wrap ((R : Int) - ((S2 : Int) - (S1 : Int)) + (Z : Int)) = (R : Int) - ((S2 : Int) - (S1 : Int)) + (Z : Int) := by rw [IntKind.wrap_i64]; omega
    by_cases hfull : 65536 < (joinL (repL L k n M)).length
    · rw [if_pos hfull]
      have t5 := hrs.2 hfull
      clear H HRD hlb hfl hts h hr hif hrs hN hml hkn HLN hplain hfull hS1 hS2 hZ hR hany
      go_enter Try.func30, Try.ntmps30
      go_wp2_with fail
      refine HHE.out.mono ?_
      rintro e w0 ⟨rfl, rfl⟩
      go_wp2_with fail
      refine HL1.out.mono ?_
      rintro e w1 ⟨r1, rfl, hb1⟩
      have HB1 := Lib.hid hb1
      have HL2' := Lib.hid (HL2.out w1 hb1)
      clear hb1
      go_wp2_with fail
      refine HL2'.out.mono ?_
      rintro e w2 ⟨r2, rfl, hb2⟩
      have hb := HB1.out.trans (hb2.mono HB1.out.size)
      have d0 := (hb.cell (p := ⟨bt, 0, none⟩) hlt).trans c0
      have hl2 : bt < w2.heap.size := by have := hb.size; omega
      have HLEN2 := Lib.hid (HLEN.out w2 hb)
      have HSZ2 := Lib.hid (HSZ.out w2 hb)
      have HF2 := Lib.hid (HF.out w2 hb)
      clear hb2 hb c0 c2
      go_wp2_with (first
        | (go_at_call 105; refine HLEN2.out.mono ?_; rintro e w' ⟨rfl, rfl⟩)
        | (go_at_call 40; refine HSZ2.out.mono ?_; rintro e w' ⟨rfl, rfl⟩))
      go_ret
      exact ⟨rfl, HF2.out⟩
    · rw [if_neg hfull]
      have t5 : ¬ ((65536 : Int) < (R : Int) - ((S2 : Int) - (S1 : Int)) + (Z : Int)) := fun h => hfull (hrs.1 h)
      have hln : ln ≤ 1048576 := by
        have h2 := sizeN_sum (lens M)
        rw [lens_len, hml, hZ] at h2
        omega
      have HST : Hid (∀ W, Below w.heap.size w W → ∃ (i c j d : Nat) (x y : List Int) (M' : List (List Int)), L[i]? = some x ∧ c ≤ x.length ∧ L[j]? = some y ∧ d ≤ y.length ∧ offN L i c ≤ offN L j d ∧ M' ≠ [] ∧ (plainL M → plainL M') ∧ swapL L i (x.take c) j (y.drop d) M' = repL L k n M ∧
          Calls Try.prog 51 #[.pointer (some ⟨bt, 0, none⟩), .int .i64 (k : Nat), .int .i64 (n : Nat), .slice la ln lc] W (StrPost W G i c j d M')) := fun W hW =>
        str_any P G bt ng k n L M la ln lc W (H.out.below hW) (HRD.out.below hW) hkn hln (fun k hk => by have := (hG k hk).1; have := hW.size; omega)
      have HTWO : Hid (∀ W, Below w.heap.size w W → ∃ (i c j d : Nat), Calls Try.prog 51 #[.pointer (some ⟨bt, 0, none⟩), .int .i64 (k : Nat), .int .i64 (n : Nat), .slice la ln lc] W fun e w' => ∃ a nn cc, e = .returned (.tuple #[.agg #[.int .i64 (i : Nat), .int .i64 (c : Nat)], .agg #[.int .i64 (j : Nat), .int .i64 (d : Nat)], .slice a nn cc]) ∧
          Hid (Calls Try.prog 49 #[.pointer (some ⟨bt, 0, none⟩), .agg #[.int .i64 (i : Nat), .int .i64 (c : Nat)], .agg #[.int .i64 (j : Nat), .int .i64 (d : Nat)], .slice a nn cc] w' fun e w'' => e = .returned (.tuple #[]) ∧ Hid (AfT P w bt (repL L k n M) (ng + 65536) w''))) := by
        intro W hW
        obtain ⟨i, c, j, d, x, y, M', hx, hc, hy, hd, hle, hM', hpl, hsw, hcall⟩ := HST.out W hW
        have hj := swap_join hx hc hy hd hM'
        have hoj := off_le hy hd
        refine ⟨i, c, j, d, hcall.mono ?_⟩
        rintro e w' ⟨a, nn, cc, rfl, hrd, hb⟩
        have hbw := hW.trans (hb.mono hW.size)
        have hsW := hW.size
        have hsw' := hb.size
        refine ⟨a, nn, cc, rfl, ?_⟩
        refine (swap_any (fun k => P k ∧ k < w.heap.size) (fun k => G k ∨ (W.heap.size ≤ k ∧ k < w'.heap.size)) bt ng L i c j d x y M' a nn cc w' (H.out.bound.below hbw) (fun k hk => by omega) hx hc hy hd hle hrd ?_ hM' (hpl hplain) ?_ hng).mono ?_
        · intro k hk
          rcases hk with h | h
          · exact ⟨by have := (hG k h).1; omega, fun hp => (hG k h).2 hp.1⟩
          · exact ⟨h.2, fun hp => by omega⟩
        · rw [hsw] at hj
          have hjl := congrArg List.length hj
          simp only [List.length_append, List.length_take, List.length_drop] at hjl
          unfold offN at hle ⊢
          omega
        · rintro e w'' ⟨rfl, htx, hf⟩
          rw [hsw] at htx
          refine ⟨rfl, htx.mono (fun k hk => ?_) (Nat.le_refl _), (Fr.of_below P hbw).trans hf (fun k _ hk => hk.1)⟩
          rcases hk with h | h
          · exact .inl h.1
          · exact .inr (by omega)
      clear H HRD hlb hfl hts h hr hif hrs hN hml hkn HLN hplain hfull hS1 hS2 hZ hR hany HST HF hG
      go_enter Try.func30, Try.ntmps30
      go_wp2_with fail
      refine HHE.out.mono ?_
      rintro e w0 ⟨rfl, rfl⟩
      go_wp2_with fail
      refine HL1.out.mono ?_
      rintro e w1 ⟨r1, rfl, hb1⟩
      have HB1 := Lib.hid hb1
      have HL2' := Lib.hid (HL2.out w1 hb1)
      clear hb1
      go_wp2_with fail
      refine HL2'.out.mono ?_
      rintro e w2 ⟨r2, rfl, hb2⟩
      have hb := HB1.out.trans (hb2.mono HB1.out.size)
      have d0 := (hb.cell (p := ⟨bt, 0, none⟩) hlt).trans c0
      have hl2 : bt < w2.heap.size := by have := hb.size; omega
      have HLEN2 := Lib.hid (HLEN.out w2 hb)
      have HSZ2 := Lib.hid (HSZ.out w2 hb)
      obtain ⟨i, c, j, d, hcall⟩ := HTWO.out w2 hb
      have HST2 := Lib.hid hcall
      clear hb2 hb c0 c2 hcall
      go_wp2_with (first
        | (go_at_call 105; refine HLEN2.out.mono ?_; rintro e w' ⟨rfl, rfl⟩)
        | (go_at_call 40; refine HSZ2.out.mono ?_; rintro e w' ⟨rfl, rfl⟩)
        | (go_at_call 51; refine HST2.out.mono ?_; rintro e w3 ⟨a3, n3, c3, rfl, HSW3⟩)
        | (go_at_call 49; refine HSW3.out.mono ?_; rintro e w4 ⟨rfl, hfin⟩))
      go_ret
      exact ⟨rfl, hfin.out⟩

theorem replaceT_any (P G : Nat → Prop) (bt ng : Nat) (i n : Int) (L M : List (List Int)) (la : Option Addr) (ln lc : Nat) (w : World) (h : TX P w bt L ng) (hi : i64b i) (hn : i64b n) (hr : RdL G w la ln lc M) (hG : ∀ k, G k → k < w.heap.size ∧ ¬ P k) (hms : sizeN (lens M) ≤ 4611686018427387904) (hng : ng + 131072 ≤ lim) :
    Calls Try.prog 30 #[.pointer (some ⟨bt, 0, none⟩), .int .i64 i, .int .i64 n, .slice la ln lc] w fun e w' => e = .returned (.int .i64 (repT L i n M).2) ∧ AfT P w bt (repT L i n M).1 (ng + 65536) w' := by
  by_cases hif : 0 ≤ i ∧ 0 ≤ n ∧ n ≤ (L.length : Int) - i
  · obtain ⟨k, rfl⟩ : ∃ k : Nat, i = k := ⟨i.toNat, by omega⟩
    obtain ⟨m, rfl⟩ : ∃ k : Nat, n = k := ⟨n.toNat, by omega⟩
    exact replaceT_in P G bt ng k m L M la ln lc w h hr (by omega) hG hms hng
  · unfold repT
    rw [if_neg hif]
    refine (replaceT_err P G bt ng L M i n la ln lc w h hi hn hif).mono ?_
    rintro e w' ⟨rfl, rfl⟩
    exact ⟨rfl, AfT.same h (Below.refl _ _) (by omega)⟩
end Go.Proofs.Ytndlebopfojjeaa.U
