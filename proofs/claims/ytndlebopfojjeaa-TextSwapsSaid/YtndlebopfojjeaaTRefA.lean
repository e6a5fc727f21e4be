/-
  The document's answer: Runes, plain, Joined.
-/
import Derived.Test.YtndlebopfojjeaaTRows
namespace Go.Proofs.Ytndlebopfojjeaa.U
open Go.RowKit
set_option linter.unusedVariables false
set_option linter.unusedSimpArgs false
set_option maxRecDepth 100000

theorem rrunes_any (F : Nat → Prop) (a : Option Addr) (n c : Nat) (L : List (List Int)) (w : World) (h : RdL F w a n c L) (hs : sizeN (lens L) ≤ 4611686018427387904) :
    Calls Try.prog 31 #[.slice a n c] w fun e w' => e = .returned (.int .i64 ((joinL L).length : Nat)) ∧ w = w' := by
  have hl := h.len
  have HL := Lib.hid hl
  have H := Lib.hid h
  have hj : max ((sizeN (lens L) : Int) - 1) 0 = ((joinL L).length : Int) := by
    by_cases e : L = []
    · subst e; simp [joinL_nil, lens, sizeN_nil]; decide
    · have := joinL_len e; omega
  obtain ⟨Z, hZ⟩ : ∃ Z, sizeN (lens L) = Z := ⟨_, rfl⟩
  obtain ⟨R, hR⟩ : ∃ R, (joinL L).length = R := ⟨_, rfl⟩
  have HZ := Lib.hid hZ
  have hnz : n ≤ Z := by rw [← hZ, ← hl]; exact size_count L
  rw [hR, hZ] at hj
  rw [hZ] at hs
  rw [hR]
  have HJ := Lib.hid hj
  clear h hl hZ hR hj
  go_enter Try.func31, Try.ntmps31
  go_wp2_with fail
  go_loop [3, 4] (fun v3 v4 => ∃ k s : Nat, k ≤ n ∧ s ≤ Z ∧ v4 = .int .i64 k ∧ v3 = .int .i64 ((s : Int) - 1) ∧ Hid (s + k = sizeN (lens (L.take k)) + n)) (fun _ v4 => n - (intOf v4).toNat)
  case atStart => exact ⟨0, n, Nat.zero_le _, hnz, rfl, by go_num, by show _ = _; simp [lens, sizeN]⟩
  case round =>
    obtain ⟨k, s, hk, hs', rfl, rfl, he⟩ := hrel
    by_cases hlt : k < n
    · obtain ⟨x, hx⟩ : ∃ x, L[k]? = some x := ⟨_, List.getElem?_eq_getElem (by have := HL.out; omega)⟩
      obtain ⟨b, off, ra, rc, rfl, hb, _, hc, hrd, _⟩ := H.out.get (Below.refl _ _) hx
      have h1 := size_take hx
      have h2 := size_take_le L (k + 1)
      have h4 : sizeN (lens L) = sizeN (lens (L.take (k + 1))) + sizeN (lens (L.drop (k + 1))) := by rw [← sizeN_append, ← lens_append, List.take_append_drop]
      have h5 := size_count (L.drop (k + 1))
      rw [List.length_drop, HL.out] at h5
      obtain ⟨y, hy⟩ : ∃ y, x.length = y := ⟨_, rfl⟩
      rw [hy] at h1 hc
      have hsz : s + y ≤ Z := by have := he.out; have := HZ.out; omega
      have HE : Hid (s + y + (k + 1) = sizeN (lens (L.take (k + 1))) + n) := by show _ = _; have := he.out; omega
      have q1 : IntKind.i64.wrap ((s : Int) - 1 + (y : Int)) = (s : Int) - 1 + (y : Int) := by rw [IntKind.wrap_i64]; omega
      clear hx hrd h1 h2 h4 h5 hy he HJ
      go_wp2_with fail
      go_round
      case rel => exact ⟨k + 1, s + y, by omega, hsz, by go_num, by go_num, HE⟩
      case measure => simp [intOf]; omega
    · obtain rfl : k = n := by omega
      have e : s = Z := by
        have := he.out
        rw [List.take_of_length_le (by have := HL.out; omega), HZ.out] at this
        omega
      subst e
      clear he
      have hj := HJ.out
      clear HJ
      go_wp2_with fail
      all_goals
        go_ret
        refine ⟨?_, rfl⟩
        congr 1
        go_num

/-- a round of plain's inner loop -/
theorem rplain_any (F : Nat → Prop) (a : Option Addr) (n c : Nat) (L : List (List Int)) (w : World) (h : RdL F w a n c L) :
    Calls Try.prog 46 #[.slice a n c] w fun e w' => e = .returned (.bool (!(L.any has10))) ∧ w = w' := by
  have hl := h.len
  have hsm := h.small
  have HL := Lib.hid hl
  have H := Lib.hid h
  have HYES : Hid (∀ (k : Nat) (x : List Int), L[k]? = some x → (10 : Int) ∈ x → (!(L.any has10)) = false) := by
    intro k x hx hm
    rw [Bool.not_eq_false', List.any_eq_true]
    exact ⟨x, List.mem_of_getElem? hx, has10_iff.2 hm⟩
  clear h hl
  go_enter Try.func46, Try.ntmps46
  go_wp2_with fail
  go_loop [3] (fun v3 => ∃ k : Nat, k ≤ n ∧ v3 = .int .i64 k ∧ Hid (plainL (L.take k))) (fun v3 => n - (intOf v3).toNat)
  case atStart => exact ⟨0, Nat.zero_le _, rfl, by intro z hz; simp at hz⟩
  case round =>
    obtain ⟨k, hk, rfl, hp⟩ := hrel
    by_cases hlt : k < n
    · obtain ⟨x, hx⟩ : ∃ x, L[k]? = some x := ⟨_, List.getElem?_eq_getElem (by have := HL.out; omega)⟩
      obtain ⟨b, off, ra, rc, rfl, hb, _, hc, hrd, _⟩ := H.out.get (Below.refl _ _) hx
      obtain ⟨m, hm⟩ : ∃ m, x.length = m := ⟨_, rfl⟩
      rw [hm] at hc hrd
      have hmm := hrd.small
      have HX := Lib.hid hx
      have HM := Lib.hid hm
      have HRD := Lib.hid hrd
      clear hx hm hrd
      go_wp2_with fail
      go_loop [4] (fun v4 => ∃ j : Nat, j ≤ m ∧ v4 = .int .i64 j ∧ Hid ((10 : Int) ∉ x.take j)) (fun v4 => m - (intOf v4).toNat)
      case atStart => exact ⟨0, Nat.zero_le _, rfl, by simp [Hid]⟩
      case round =>
        obtain ⟨j, hj, rfl, hno⟩ := hrel
        by_cases hjl : j < m
        · obtain ⟨b2, off2, rfl, hc2⟩ := HRD.out.2.2.2.2.2 (by omega)
          have hcj := hc2 j hjl
          obtain ⟨y, hy⟩ : ∃ y, x[j]? = some y := ⟨_, List.getElem?_eq_getElem (by have := HM.out; omega)⟩
          rw [List.getD_eq_getElem?_getD, hy, Option.getD_some] at hcj
          have hb2 := block_lt_of_cell hcj
          by_cases h10 : y = 10
          · subst h10
            have HF := Lib.hid (HYES.out k x HX.out (List.mem_of_getElem? hy))
            clear hy hc2
            go_wp2_with fail
            go_ret
            exact ⟨by rw [HF.out]; rfl, rfl⟩
          · have hye : (y == 10) = false := by simpa using h10
            have HN : Hid ((10 : Int) ∉ x.take (j + 1)) := by
              obtain ⟨hjx, e⟩ := List.getElem?_eq_some_iff.1 hy
              show _ ∉ _
              rw [List.take_succ_eq_append_getElem hjx, List.mem_append, not_or, e]
              exact ⟨hno.out, by simp; exact fun e => h10 e.symm⟩
            clear hy hc2 hno
            go_wp2_with fail
            go_round
            case rel => exact ⟨j + 1, by omega, by go_num, HN⟩
            case measure => simp [intOf]; omega
        · obtain rfl : j = m := by omega
          have HN : Hid (plainL (L.take (k + 1))) := by
            obtain ⟨hkx, e⟩ := List.getElem?_eq_some_iff.1 HX.out
            intro z hz
            rw [List.take_succ_eq_append_getElem hkx, List.mem_append, List.mem_singleton, e] at hz
            rcases hz with hz | rfl
            · exact hp.out z hz
            · have := hno.out; rwa [List.take_of_length_le (by have := HM.out; omega)] at this
          clear hno hp
          go_wp2_with fail
          go_round
          case rel => exact ⟨k + 1, by omega, by go_num, HN⟩
          case measure => simp [intOf]; omega
    · obtain rfl : k = n := by omega
      have HF : Hid ((!(L.any has10)) = true) := by
        have := hp.out
        rw [List.take_of_length_le (by have := HL.out; omega)] at this
        show _ = _
        rw [plain_iff.2 this]; rfl
      clear hp
      go_wp2_with fail
      go_ret
      exact ⟨by rw [HF.out]; rfl, rfl⟩

set_option maxHeartbeats 2000000 in
theorem rjoined_any (F : Nat → Prop) (a : Option Addr) (n c : Nat) (L : List (List Int)) (w : World) (h : RdL F w a n c L) (hs : sizeN (lens L) ≤ 1048576) :
    Calls Try.prog 52 #[.slice a n c] w fun e w' => ∃ a' c', e = .returned (.slice a' (joinL L).length c') ∧ w'.ownsRow w.heap.size 21 1 (.slice a' (joinL L).length c') (joinL L).length (ints (joinL L)) ∧ Below w.heap.size w w' := by
  have hl := h.len
  have hsm := h.small
  have HZ : Hid (sizeN (lens L) ≤ 1048576) := hs
  have HL := Lib.hid hl
  have H := Lib.hid h
  clear h hl hs
  go_enter Try.func52, Try.ntmps52
  go_wp2_with fail
  go_loopw [3, 4] (fun v3 v4 wr => ∃ (k m : Nat) (ra : Option Addr) (rc : Nat), v4 = .int .i64 k ∧ v3 = .slice ra m rc ∧ k ≤ n ∧ m ≤ 1048576 ∧ Hid (m = (joinL (L.take k)).length ∧ wr.ownsRow w.heap.size 21 1 (.slice ra m rc) m (ints (joinL (L.take k))) ∧ Below w.heap.size w wr)) (fun _ v4 _ => n - (intOf v4).toNat)
  case atStart => exact ⟨0, 0, _, _, rfl, rfl, Nat.zero_le _, Nat.zero_le _, rfl, World.ownsRow_nil _ _ _ _, Below.refl _ _⟩
  case round =>
    obtain ⟨k, m, ra, rc, rfl, rfl, hk, hm, hst⟩ := hrel
    obtain ⟨hml, ho, hb⟩ := hst.out
    clear hst
    by_cases hlt : k < n
    · obtain ⟨x, hx⟩ : ∃ x, L[k]? = some x := ⟨_, List.getElem?_eq_getElem (by have := HL.out; omega)⟩
      obtain ⟨b, off, xa, xc, rfl, hbl, _, hc, hrd, _⟩ := H.out.get hb hx
      have hbw : b < wr.heap.size := by have := hb.size; omega
      have hjl := joinL_len_le (L.take (k + 1))
      have hsl := size_take_le L (k + 1)
      have hbz := hb.size
      have hzz := HZ.out
      have hsn := joinL_snoc (L.take k) x
      rw [← take_snocI hx] at hsn
      by_cases hk0 : k = 0
      · subst hk0
        rw [List.take_zero, if_pos rfl, List.nil_append] at hsn
        rw [List.take_zero, joinL_nil] at ho hml
        simp only [List.length_nil] at hml
        subst hml
        obtain ⟨a2, c2, w2, hrun, ho2, hb2⟩ := app_rd wr w.heap.size _ 0 [] xa x.length xc x ho hb.size hrd (by rw [hsn] at hjl; omega)
        rw [Nat.zero_add] at hrun ho2
        rw [List.nil_append] at ho2
        have HRUN := Lib.hid hrun
        obtain ⟨y, hy⟩ : ∃ y, x.length = y := ⟨_, rfl⟩
        have hyb : y ≤ 1048576 := by rw [hsn] at hjl; omega
        have HN : Hid (y = (joinL (L.take 1)).length ∧ w2.ownsRow w.heap.size 21 1 (.slice a2 y c2) y (ints (joinL (L.take 1))) ∧ Below w.heap.size w w2) := by
          rw [← hy]
          have hsn' : joinL (L.take 1) = x := hsn
          exact ⟨by rw [hsn'], by rw [hsn']; exact ho2, hb.trans hb2⟩
        rw [hy] at hc HRUN
        clear hx hrd hjl hsl hsn ho hrun ho2 hb2 hy
        rw [Nat.add_zero] at hc
        go_wp2_with (at_builtin; go_must (with_reducible refine Lib.wpList_append_run _ rfl (.tmp 16) (.tmp 20) _ _ rfl _ _ rfl rfl _ _ (HRUN.out _) ?_))
        go_roundw
        case rel => exact ⟨1, y, a2, c2, by go_num, rfl, by omega, hyb, HN⟩
        case measure => simp [intOf]; omega
      · have hne : L.take k ≠ [] := by
          intro e
          have := congrArg List.length e
          rw [List.length_take, HL.out, List.length_nil] at this
          omega
        rw [if_neg hne] at hsn
        have hlen := congrArg List.length hsn
        simp only [List.length_append, List.length_cons, List.length_nil] at hlen
        have hba : Below w.heap.size w (wr.alloc (.cells #[.int .i32 10] 21)) := hb.alloc hb.size _
        have hr10 := Rd_new .i32 wr [10] #[.int .i32 10] 21 1 rfl rfl (by unfold maxLen; omega) (by decide)
        obtain ⟨a2, c2, w2, hrun, ho2, hb2⟩ := app_rd (wr.alloc (.cells #[.int .i32 10] 21)) w.heap.size _ m _ (some ⟨wr.heap.size, 0, none⟩) 1 1 [10] (ho.alloc _) hba.size hr10 (by omega)
        have hb12 := hba.trans hb2
        have hx2 : Rd .i32 w2 xa x.length xc x := by
          obtain ⟨b', off', xa', xc', e1, _, _, e4, e5, _⟩ := H.out.get hb12 hx
          have e6 := (hb12.cell (p := ⟨b, off + k, none⟩) hbl)
          have e7 := (hb.cell (p := ⟨b, off + k, none⟩) hbl)
          cases e1
          rw [e6, ← e7, hc] at e4
          injection e4 with e4
          injection e4 with q1 q2 q3
          subst q1 q3
          exact e5
        obtain ⟨a3, c3, w3, hrun3, ho3, hb3⟩ := app_rd w2 w.heap.size _ (m + 1) _ xa x.length xc x ho2 hb12.size hx2 (by omega)
        have HRUN := Lib.hid hrun
        have HRUN3 := Lib.hid hrun3
        obtain ⟨y, hy⟩ : ∃ y, x.length = y := ⟨_, rfl⟩
        have hyb : m + 1 + y ≤ 1048576 := by omega
        have hc2' := (hb12.cell (p := ⟨b, off + k, none⟩) hbl).trans ((hb.cell (p := ⟨b, off + k, none⟩) hbl).symm.trans hc)
        have hb2l : b < w2.heap.size := by have := hb12.size; omega
        have HN : Hid (m + 1 + y = (joinL (L.take (k + 1))).length ∧ w3.ownsRow w.heap.size 21 1 (.slice a3 (m + 1 + y) c3) (m + 1 + y) (ints (joinL (L.take (k + 1)))) ∧ Below w.heap.size w w3) := by
          rw [← hy]
          exact ⟨by omega, by rw [hsn]; exact ho3, hb12.trans hb3⟩
        rw [hy] at hc HRUN3 hc2'
        have hk0' : 0 < k := by omega
        clear hx hrd hjl hsl hsn ho hrun ho2 hb2 hy hrun3 ho3 hb3 hx2 hr10 hba hb12 hlen hne hml
        go_wp2_with (at_builtin; go_must (first
          | (with_reducible refine Lib.wpList_append_run _ rfl (.tmp 13) (.tmp 14) _ _ rfl _ _ rfl rfl _ _ (HRUN.out _) ?_)
          | (with_reducible refine Lib.wpList_append_run _ rfl (.tmp 16) (.tmp 20) _ _ rfl _ _ rfl rfl _ _ (HRUN3.out _) ?_)))
        go_roundw
        case rel => exact ⟨k + 1, m + 1 + y, a3, c3, by go_num, rfl, by omega, hyb, HN⟩
        case measure => simp [intOf]; omega
    · obtain rfl : k = n := by omega
      rw [List.take_of_length_le (by have := HL.out; omega)] at ho hml
      have HF : Hid (∃ a' c', Ending.returned (.slice ra m rc) = Ending.returned (.slice a' (joinL L).length c') ∧ wr.ownsRow w.heap.size 21 1 (.slice a' (joinL L).length c') (joinL L).length (ints (joinL L)) ∧ Below w.heap.size w wr) := by
        rw [← hml]
        exact ⟨_, _, rfl, ho, hb⟩
      clear ho hml
      go_wp2_with fail
      go_ret
      exact HF.out
end Go.Proofs.Ytndlebopfojjeaa.U
