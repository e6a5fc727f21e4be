/-
  The document's leaves of layer 13: blanks, filled, widest, Plain, turned, First.
-/
import Derived.Test.YtfldjoiohejilaaJPure
namespace Go.Proofs.Ytfldjoiohejilaa.U
open Go.RowKit
set_option linter.unusedVariables false
set_option linter.unusedSimpArgs false
set_option maxRecDepth 100000

/-- append of one rune that is written out -/
theorem app_one (w : World) (B : Nat) (v : Value) (n : Nat) (xs : List Int) (z : Int) (h : w.ownsRow B 21 1 v n (ints xs)) (hB : B ≤ w.heap.size) (hz : (Lit.int .i32 z).wf = true) (hn : n ≤ 1099511627776) :
    ∃ a' c' w', (∀ ty, (Builtin.append_ #[35, 35] ty #[v, .slice (some ⟨w.heap.size, 0, none⟩) 1 1]).run Try.prog (w.alloc (.cells #[.int .i32 z] 21)) = .ok (.slice a' (n + 1) c') w') ∧ w'.ownsRow B 21 1 (.slice a' (n + 1) c') (n + 1) (ints (xs ++ [z])) ∧ Below B w w' := by
  have hba : Below B w (w.alloc (.cells #[.int .i32 z] 21)) := (Below.refl _ w).alloc hB _
  have hr := Rd_new .i32 w [z] #[.int .i32 z] 21 1 rfl rfl (by unfold maxLen; omega) (by simpa using hz)
  obtain ⟨a', c', w', hrun, ho, hb⟩ := app_rd (w.alloc (.cells #[.int .i32 z] 21)) B v n xs (some ⟨w.heap.size, 0, none⟩) 1 1 [z] (h.alloc _) (by simp; omega) hr (by omega)
  exact ⟨a', c', w', hrun, ho, hba.trans hb⟩
set_option maxHeartbeats 1000000 in
theorem rblanks_any (n : Int) (w : World) (h1 : -9223372036854775808 ≤ n) (h2 : n ≤ 1048576) :
    Calls Try.prog 71 #[.int .i64 n] w fun e w' => ∃ a c, e = .returned (.slice a n.toNat c) ∧ w'.ownsRow w.heap.size 21 1 (.slice a n.toNat c) n.toNat (ints (blanksR n.toNat)) ∧ Below w.heap.size w w' := by
  obtain ⟨N, hN⟩ : ∃ N, n.toNat = N := ⟨_, rfl⟩
  rw [hN]
  have hN1 : N ≤ 1048576 := by omega
  have HNN : Hid (n.toNat = N) := hN
  clear hN
  go_enter Try.func71, Try.ntmps71
  go_wp2_with fail
  go_loopw [3, 4] (fun v3 v4 wr => ∃ (i : Nat) (ra : Option Addr) (rc : Nat), v4 = .int .i64 i ∧ v3 = .slice ra i rc ∧ i ≤ N ∧ Hid (wr.ownsRow w.heap.size 21 1 (.slice ra i rc) i (ints (blanksR i)) ∧ Below w.heap.size w wr)) (fun _ v4 _ => N - (intOf v4).toNat)
  case atStart => exact ⟨0, _, _, rfl, rfl, Nat.zero_le _, World.ownsRow_nil _ _ _ _, Below.refl _ _⟩
  case round =>
    obtain ⟨i, ra, rc, rfl, rfl, hi, hst⟩ := hrel
    obtain ⟨ho, hb⟩ := hst.out
    by_cases hlt : i < N
    · have hlt2 : (i : Int) < n := by have := HNN.out; omega
      obtain ⟨a2, c2, w2, hrun, ho2, hb2⟩ := app_one wr w.heap.size _ i _ 32 ho hb.size (by decide) (by omega)
      have HRUN := Lib.hid hrun
      have HN : Hid (w2.ownsRow w.heap.size 21 1 (.slice a2 (i + 1) c2) (i + 1) (ints (blanksR (i + 1))) ∧ Below w.heap.size w w2) := ⟨by rw [blanksR_succ]; exact ho2, hb.trans hb2⟩
      clear hst ho hb hrun ho2 hb2
      go_wp2_with (at_builtin; go_must (with_reducible refine Lib.wpList_append_run _ rfl (.tmp 10) (.tmp 11) _ _ rfl _ _ rfl rfl _ _ (HRUN.out _) ?_))
      go_roundw
      case rel => exact ⟨i + 1, a2, c2, by go_num, rfl, by omega, HN⟩
      case measure => simp [intOf]; omega
    · obtain rfl : i = N := by omega
      have hge : n ≤ (i : Int) := by have := HNN.out; omega
      have HF := hst
      clear hst ho hb
      go_wp2_with fail
      go_ret
      exact ⟨_, _, rfl, HF.out.1, HF.out.2⟩
theorem filled_len (x : List Int) (n : Nat) : (filledR x n).length = max x.length n := by
  unfold filledR blanksR
  simp; omega
set_option maxHeartbeats 1000000 in
theorem rfilled_any (a : Option Addr) (m c : Nat) (x : List Int) (n : Nat) (w : World) (h : Rd .i32 w a m c x) (hm : m ≤ 1048576) (hn : n ≤ 1048576) :
    Calls Try.prog 93 #[.slice a m c, .int .i64 (n : Nat)] w fun e w' => ∃ a' c', e = .returned (.slice a' (filledR x n).length c') ∧ w'.ownsRow w.heap.size 21 1 (.slice a' (filledR x n).length c') (filledR x n).length (ints (filledR x n)) ∧ Below w.heap.size w w' := by
  have hx := h.1
  have hl := filled_len x n
  obtain ⟨a1, c1, w1, hrun1, ho1, hb1⟩ := app_lit w a m c x h (by omega)
  have hd : ((n : Int) - (m : Int)).toNat = n - m := by omega
  have HB : Hid (∀ w0, w0 = w1 → Calls Try.prog 71 #[.int .i64 ((n : Int) - (m : Int))] w0 fun e w' => ∃ a2 c2 a3 c3 w3, e = .returned (.slice a2 (n - m) c2) ∧ Hid (∀ ty, (Builtin.append_ #[35, 35] ty #[.slice a1 m c1, .slice a2 (n - m) c2]).run Try.prog w' = .ok (.slice a3 (m + (n - m)) c3) w3) ∧ Hid (w3.ownsRow w.heap.size 21 1 (.slice a3 (m + (n - m)) c3) (m + (n - m)) (ints (filledR x n)) ∧ Below w.heap.size w w3)) := by
    rintro w0 rfl
    refine (rblanks_any _ w0 (by omega) (by omega)).mono ?_
    rintro e w' ⟨a2, c2, rfl, ho2, hb2⟩
    rw [hd] at ho2 ⊢
    have hbs := hb1.size
    obtain ⟨a3, c3, w3, hrun3, ho3, hb3⟩ := app_rd w' w.heap.size _ m x a2 (n - m) c2 (blanksR (n - m)) (own_fr ho1 (Fr.of_below (fun _ => False) hb2) (fun _ _ h => h)) (by have := hb2.size; omega) (own_rd ho2 (by intro z hz; unfold blanksR at hz; rw [List.eq_of_mem_replicate hz]; decide)) (by omega)
    refine ⟨a2, c2, a3, c3, w3, rfl, hrun3, ?_, (hb1.trans (hb2.mono hbs)).trans hb3⟩
    unfold filledR
    rw [hx]
    exact ho3
  have hlen : (filledR x n).length = m + (n - m) := by rw [hl, hx]; omega
  rw [hlen]
  have HRUN1 := Lib.hid hrun1
  clear h hx hl hrun1 ho1 hb1 hlen hd
  go_enter Try.func93, Try.ntmps93
  go_wp2_with (first
    | (at_builtin; go_must (first
      | (with_reducible refine Lib.wpList_append_run _ rfl (.tmp 5) (.tmp 6) _ _ rfl _ _ rfl rfl _ _ (HRUN1.out _) ?_)
      | (with_reducible refine Lib.wpList_append_run _ rfl (.tmp 7) (.tmp 12) _ _ rfl _ _ rfl rfl _ _ (HRUN.out _) ?_)))
    | (go_at_call 71; (refine (HB.out _ rfl).mono ?_); rintro e w2 ⟨a2, c2, a3, c3, w3, rfl, HRUN, HFIN⟩))
  go_ret
  exact ⟨_, _, rfl, HFIN.out.1, HFIN.out.2⟩
theorem widest_snoc (L : List (List Int)) (x : List Int) : widestR (L ++ [x]) = max (widestR L) x.length := by
  unfold widestR
  rw [List.foldl_append]
  rfl
set_option maxHeartbeats 1000000 in
theorem rwidest_any (F : Nat → Prop) (a : Option Addr) (n c : Nat) (L : List (List Int)) (w : World) (h : RdL F w a n c L) :
    Calls Try.prog 91 #[.slice a n c] w fun e w' => e = .returned (.int .i64 (widestR L : Nat)) ∧ w' = w := by
  have hl := h.len
  have hsm := h.small
  have H := Lib.hid (And.intro h hl)
  clear h hl
  go_enter Try.func91, Try.ntmps91
  go_wp2_with fail
  go_loopw [3, 4] (fun v3 v4 wr => ∃ (i m : Nat), v4 = .int .i64 i ∧ v3 = .int .i64 m ∧ i ≤ n ∧ Hid (m = widestR (L.take i) ∧ wr = w)) (fun _ v4 _ => n - (intOf v4).toNat)
  case atStart => exact ⟨0, 0, rfl, rfl, Nat.zero_le _, rfl, rfl⟩
  case round =>
    obtain ⟨i, m, rfl, rfl, hi, hst⟩ := hrel
    obtain ⟨hm, rfl⟩ := hst.out
    by_cases hlt : i < n
    · obtain ⟨x, hx⟩ : ∃ x, L[i]? = some x := ⟨_, List.getElem?_eq_getElem (by have := H.out.2; omega)⟩
      obtain ⟨b, off, xa, xc, rfl, hbl, _, hc, hrd, _⟩ := H.out.1.get (Below.refl _ _) hx
      have hws := widest_snoc (L.take i) x
      rw [← take_snocI hx, ← hm] at hws
      obtain ⟨y, hy⟩ : ∃ y, x.length = y := ⟨_, rfl⟩
      rw [hy] at hc hws
      obtain ⟨m2, hm2⟩ : ∃ m2, max m y = m2 := ⟨_, rfl⟩
      have hmx : max (m : Int) (y : Int) = (m2 : Int) := by omega
      have HN : Hid (m2 = widestR (L.take (i + 1)) ∧ wr = wr) := ⟨by rw [hws, hm2], rfl⟩
      clear hx hrd hws hy hm hst hm2
      go_wp2_with fail
      go_roundw
      case rel => exact ⟨i + 1, m2, by go_num, by first | rfl | (rw [hmx]) | go_num, by omega, ⟨HN.out.1, (by first | trivial | rfl)⟩⟩
      case measure => simp [intOf]; omega
    · obtain rfl : i = n := by omega
      rw [List.take_of_length_le (by have := H.out.2; omega)] at hm
      subst hm
      clear hst
      go_wp2_with fail
      go_ret
      exact ⟨rfl, rfl⟩
theorem rplain13_any (F : Nat → Prop) (a : Option Addr) (n c : Nat) (L : List (List Int)) (w : World) (h : RdL F w a n c L) :
    Calls Try.prog 37 #[.slice a n c] w fun e w' => e = .returned (.bool (!(L.any has10))) ∧ w = w' := by
  have hl := h.len
  have hsm := h.small
  have HL := Lib.hid hl
  have H := Lib.hid h
  have HYES : Hid (∀ (k : Nat) (x : List Int), L[k]? = some x → (10 : Int) ∈ x → (!(L.any has10)) = false) := by
    intro k x hx hm
    rw [Bool.not_eq_false', List.any_eq_true]
    exact ⟨x, List.mem_of_getElem? hx, has10_iff.2 hm⟩
  clear h hl
  go_enter Try.func37, Try.ntmps37
  go_wp2_with fail
  go_loop [3] (fun v3 => ∃ k : Nat, k ≤ n ∧ v3 = .int .i64 k ∧ Hid (plainL (L.take k))) (fun v3 => n - (intOf v3).toNat)
  case atStart => exact ⟨0, Nat.zero_le _, rfl, by intro z hz; simp at hz⟩
  case round =>
    obtain ⟨k, hk, rfl, hp⟩ := hrel
    by_cases hlt : k < n
    · obtain ⟨x, hx⟩ : ∃ x, L[k]? = some x := ⟨_, List.getElem?_eq_getElem (by have := HL.out; omega)⟩
      obtain ⟨b, off, ra, rc, rfl, hb, _, hc, hrd, _⟩ := H.out.get (Below.refl _ _) hx
      obtain ⟨m, hm⟩ : ∃ m, x.length = m := ⟨_, rfl⟩
      rw [hm] at hc hrd
      have hmm := hrd.small
      have HX := Lib.hid hx
      have HM := Lib.hid hm
      have HRD := Lib.hid hrd
      clear hx hm hrd
      go_wp2_with fail
      go_loop [4] (fun v4 => ∃ j : Nat, j ≤ m ∧ v4 = .int .i64 j ∧ Hid ((10 : Int) ∉ x.take j)) (fun v4 => m - (intOf v4).toNat)
      case atStart => exact ⟨0, Nat.zero_le _, rfl, by simp [Hid]⟩
      case round =>
        obtain ⟨j, hj, rfl, hno⟩ := hrel
        by_cases hjl : j < m
        · obtain ⟨b2, off2, rfl, hc2⟩ := HRD.out.2.2.2.2.2 (by omega)
          have hcj := hc2 j hjl
          obtain ⟨y, hy⟩ : ∃ y, x[j]? = some y := ⟨_, List.getElem?_eq_getElem (by have := HM.out; omega)⟩
          rw [List.getD_eq_getElem?_getD, hy, Option.getD_some] at hcj
          have hb2 := block_lt_of_cell hcj
          by_cases h10 : y = 10
          · subst h10
            have HF := Lib.hid (HYES.out k x HX.out (List.mem_of_getElem? hy))
            clear hy hc2
            go_wp2_with fail
            go_ret
            exact ⟨by rw [HF.out]; rfl, rfl⟩
          · have hye : (y == 10) = false := by simpa using h10
            have HN : Hid ((10 : Int) ∉ x.take (j + 1)) := by
              obtain ⟨hjx, e⟩ := List.getElem?_eq_some_iff.1 hy
              show _ ∉ _
              rw [List.take_succ_eq_append_getElem hjx, List.mem_append, not_or, e]
              exact ⟨hno.out, by simp; exact fun e => h10 e.symm⟩
            clear hy hc2 hno
            go_wp2_with fail
            go_round
            case rel => exact ⟨j + 1, by omega, by go_num, HN⟩
            case measure => simp [intOf]; omega
        · obtain rfl : j = m := by omega
          have HN : Hid (plainL (L.take (k + 1))) := by
            obtain ⟨hkx, e⟩ := List.getElem?_eq_some_iff.1 HX.out
            intro z hz
            rw [List.take_succ_eq_append_getElem hkx, List.mem_append, List.mem_singleton, e] at hz
            rcases hz with hz | rfl
            · exact hp.out z hz
            · have := hno.out; rwa [List.take_of_length_le (by have := HM.out; omega)] at this
          clear hno hp
          go_wp2_with fail
          go_round
          case rel => exact ⟨k + 1, by omega, by go_num, HN⟩
          case measure => simp [intOf]; omega
    · obtain rfl : k = n := by omega
      have HF : Hid ((!(L.any has10)) = true) := by
        have := hp.out
        rw [List.take_of_length_le (by have := HL.out; omega)] at this
        show _ = _
        rw [plain_iff.2 this]; rfl
      clear hp
      go_wp2_with fail
      go_ret
      exact ⟨by rw [HF.out]; rfl, rfl⟩


theorem rturned_any (c how : Int) (w : World) (hc : (Lit.int .i32 c).wf = true) :
    Calls Try.prog 65 #[.int .i32 c, .int .i32 how] w fun e w' => e = .returned (.int .i32 (turnC13 how c)) ∧ w' = w := by
  unfold turnC13
  go_enter Try.func65, Try.ntmps65
  by_cases b1 : 97 ≤ c
  · have b3 : 65 ≤ c := by omega
    have b4 : ¬ c ≤ 90 := by omega
    by_cases b2 : c ≤ 122
    · by_cases e1 : how = 117
      · subst e1
        go_wp2; go_ret
        exact ⟨by simp [b1, b2, b3, b4], rfl⟩
      · have e1' : (how != 117) = true := by simpa using e1
        go_wp2; go_ret
        exact ⟨by simp [b1, b2, e1]; omega, rfl⟩
    · go_wp2; go_ret
      exact ⟨by simp [b1, b2, b3, b4], rfl⟩
  · by_cases b3 : 65 ≤ c
    · by_cases b4 : c ≤ 90
      · by_cases e1 : how = 85
        · subst e1
          go_wp2; go_ret
          exact ⟨by simp [b1, b3, b4], rfl⟩
        · have e1' : (how != 85) = true := by simpa using e1
          go_wp2; go_ret
          exact ⟨by simp [b1, b3, b4, e1]; omega, rfl⟩
      · go_wp2; go_ret
        exact ⟨by simp [b1, b3, b4], rfl⟩
    · go_wp2; go_ret
      exact ⟨by simp [b1, b3], rfl⟩
end Go.Proofs.Ytfldjoiohejilaa.U
