/-
  The contracts of sizeOf, lengthsOf, joined; slices.Index, Contains, IndexFunc, ContainsFunc; haveEnd; parted.
-/
import Derived.Test.YtndlebopfojjeaaTCat
namespace Go.Proofs.Ytndlebopfojjeaa.U
open Go.RowKit
set_option linter.unusedVariables false
set_option linter.unusedSimpArgs false
set_option maxRecDepth 100000

theorem size_take {L : List (List Int)} {k : Nat} {x : List Int} (h : L[k]? = some x) : sizeN (lens (L.take (k + 1))) = sizeN (lens (L.take k)) + (x.length + 1) := by
  obtain ⟨hk, e⟩ := List.getElem?_eq_some_iff.1 h
  rw [List.take_succ_eq_append_getElem hk, lens_append, sizeN_append, e]; simp [lens, sizeN]
theorem size_take_le (L : List (List Int)) (k : Nat) : sizeN (lens (L.take k)) ≤ sizeN (lens L) := by
  rw [lens_take]; exact sizeN_take_le _ _
theorem size_count (L : List (List Int)) : L.length ≤ sizeN (lens L) := by rw [sizeN_sum, lens_len]; omega

theorem sizeOf_any (F : Nat → Prop) (a : Option Addr) (n c : Nat) (L : List (List Int)) (w : World) (h : RdL F w a n c L) (hs : sizeN (lens L) ≤ 9223372036854775807) :
    Calls Try.prog 40 #[.slice a n c] w fun e w' => e = .returned (.int .i64 (sizeN (lens L) : Nat)) ∧ w = w' := by
  have hsm := h.small
  have hl := h.len
  have HL := Lib.hid hl
  have H := Lib.hid h
  obtain ⟨Z, hZ⟩ : ∃ Z, sizeN (lens L) = Z := ⟨_, rfl⟩
  have HZ := Lib.hid hZ
  rw [hZ] at hs ⊢
  have hnz : n ≤ Z := by rw [← hZ, ← hl]; exact size_count L
  clear h hl hZ
  go_enter Try.func40, Try.ntmps40
  go_wp2_with fail
  go_loop [3, 10] (fun v3 v10 => ∃ k s : Nat, k ≤ n ∧ s ≤ Z ∧ v10 = .int .i64 k ∧ v3 = .int .i64 s ∧ Hid (s + k = sizeN (lens (L.take k)) + n)) (fun _ v10 => n - (intOf v10).toNat)
  case atStart => exact ⟨0, n, Nat.zero_le _, hnz, rfl, rfl, by show _ = _; simp [lens, sizeN]⟩
  case round =>
    obtain ⟨k, s, hk, hs', rfl, rfl, he⟩ := hrel
    by_cases hlt : k < n
    · obtain ⟨x, hx⟩ : ∃ x, L[k]? = some x := ⟨_, List.getElem?_eq_getElem (by have := HL.out; omega)⟩
      obtain ⟨b, off, ra, rc, rfl, hb, _, hc, hrd, _⟩ := H.out.get (Below.refl _ _) hx
      have h1 := size_take hx
      have h2 := size_take_le L (k + 1)
      have h3 : k + 1 + (n - (k + 1)) = n := by omega
      have h4 : sizeN (lens L) = sizeN (lens (L.take (k + 1))) + sizeN (lens (L.drop (k + 1))) := by rw [← sizeN_append, ← lens_append, List.take_append_drop]
      have h5 := size_count (L.drop (k + 1))
      rw [List.length_drop, HL.out] at h5
      obtain ⟨y, hy⟩ : ∃ y, x.length = y := ⟨_, rfl⟩
      rw [hy] at h1 hc
      have hsz : s + y ≤ Z := by have := he.out; have := HZ.out; omega
      have HE : Hid (s + y + (k + 1) = sizeN (lens (L.take (k + 1))) + n) := by show _ = _; have := he.out; omega
      clear hx hrd h1 h2 h3 h4 h5 hy he
      go_wp2_with fail
      go_round
      case rel => exact ⟨k + 1, s + y, by omega, hsz, by go_num, by go_num, HE⟩
      case measure => simp [intOf]; omega
    · obtain rfl : k = n := by omega
      have e : s = Z := by
        have := he.out
        rw [List.take_of_length_le (by have := HL.out; omega), HZ.out] at this
        omega
      subst e
      clear he
      go_wp2_with fail
      go_ret
      exact ⟨rfl, rfl⟩

theorem makeN (w : World) (n : Nat) (hn : n ≤ 1073741824) : (Instr.makeSlice 81 (.int .i64 n) (.int .i64 n)).run Try.prog w = .ok (.slice (some ⟨w.heap.size, 0, none⟩) n n) (w.alloc (.cells (madeCells #[.int .i64 0] n) 3)) := by
  obtain ⟨i, hi, hz0, hz1, hz2⟩ := info_parts infoN
  have hr := run_make (P := Try.prog) w 81 3 i _ Try.underlying81 hi hz0 .i64 .i64 n n (by omega) (Int.le_refl _) (by rw [hz2]; omega) (by omega)
  simpa [hz1, Value.cells] using hr

theorem set1_take (cur : List Value) (k : Nat) (a : Value) (h : k < cur.length) : (cur.set k a).take (k + 1) = cur.take k ++ [a] := by
  apply List.ext_getElem?
  intro i
  rw [List.getElem?_take]
  by_cases hi : i < k
  · rw [if_pos (by omega), List.getElem?_set_ne (by omega), List.getElem?_append_left (by simp; omega), List.getElem?_take, if_pos hi]
  · by_cases h0 : i = k
    · subst h0
      rw [if_pos (by omega), List.getElem?_set_self h, List.getElem?_append_right (by simp; omega), List.length_take, Nat.min_eq_left (by omega), Nat.sub_self]
      rfl
    · rw [if_neg (by omega), List.getElem?_eq_none (by simp; omega)]
theorem cell_set1 {w : World} {g k : Nat} {cur : List Value} {t : TypeId} (h : w.heap[g]? = some (.cells cur.toArray t (0, 0))) (a : Value) : (w.setCell ⟨g, k, none⟩ a).heap[g]? = some (.cells (cur.set k a).toArray t (0, 0)) := by
  have := heap_set h k a
  simpa using this

set_option maxHeartbeats 1000000 in
theorem lengthsOf_any (F : Nat → Prop) (a : Option Addr) (n c : Nat) (L : List (List Int)) (w : World) (h : RdL F w a n c L) (hn : n ≤ 1048576) :
    Calls Try.prog 45 #[.slice a n c] w fun e w' => e = .returned (.slice (some ⟨w.heap.size, 0, none⟩) n n) ∧ w'.ownsRow w.heap.size 3 1 (.slice (some ⟨w.heap.size, 0, none⟩) n n) n (nats (lens L)) ∧ Below w.heap.size w w' := by
  have hsm := h.small
  have hl := h.len
  have hmk := makeN w n (by omega)
  obtain ⟨w0, hw0⟩ : ∃ w0, w.alloc (.cells (madeCells #[.int .i64 0] n) 3) = w0 := ⟨_, rfl⟩
  rw [hw0] at hmk
  have HST : Hid ((∃ cur : List Value, w0.heap[w.heap.size]? = some (.cells cur.toArray 3 (0, 0)) ∧ cur.length = n ∧ cur.take 0 = nats (lens (L.take 0))) ∧ Below w.heap.size w w0) := by
    refine ⟨⟨(madeCells #[.int .i64 0] n).toList, by rw [← hw0]; simpa using heap_alloc_new w _, by rw [Array.length_toList, size_madeCells], by simp [lens, nats]⟩, by rw [← hw0]; exact (Below.refl _ _).alloc (Nat.le_refl _) _⟩
  have HL := Lib.hid hl
  have H := Lib.hid h
  clear h hl hw0
  go_enter Try.func45, Try.ntmps45
  go_wp2_with fail
  go_loopw [11] (fun v11 wr => ∃ k : Nat, v11 = .int .i64 k ∧ k ≤ n ∧ Hid ((∃ cur : List Value, wr.heap[w.heap.size]? = some (.cells cur.toArray 3 (0, 0)) ∧ cur.length = n ∧ cur.take k = nats (lens (L.take k))) ∧ Below w.heap.size w wr)) (fun v11 _ => n - (intOf v11).toNat)
  case atStart => exact ⟨0, rfl, Nat.zero_le _, HST⟩
  case round =>
    obtain ⟨k, rfl, hk, hst⟩ := hrel
    clear HST hmk
    obtain ⟨⟨cur, hg, hcl, ht⟩, hb⟩ := hst.out
    clear hst
    by_cases hlt : k < n
    · obtain ⟨x, hx⟩ : ∃ x, L[k]? = some x := ⟨_, List.getElem?_eq_getElem (by have := HL.out; omega)⟩
      obtain ⟨b, off, ra, rc, rfl, hbl, _, hc, hrd, _⟩ := H.out.get hb hx
      obtain ⟨u0, s0⟩ : ∃ u0, wr.cell? ⟨w.heap.size, k, none⟩ = some u0 := ⟨cur[k]'(by omega), by rw [cell_row hg]; simp⟩
      have z0 := frozen_row hg k
      have hgl := heap_lt hg
      have hbw : b < wr.heap.size := by have := hb.size; omega
      obtain ⟨y, hy⟩ : ∃ y, x.length = y := ⟨_, rfl⟩
      rw [hy] at hc
      have HN : Hid ((∃ cur : List Value, (wr.setCell ⟨w.heap.size, k, none⟩ (.int .i64 (y : Nat))).heap[w.heap.size]? = some (.cells cur.toArray 3 (0, 0)) ∧ cur.length = n ∧ cur.take (k + 1) = nats (lens (L.take (k + 1)))) ∧ Below w.heap.size w (wr.setCell ⟨w.heap.size, k, none⟩ (.int .i64 (y : Nat)))) := by
        refine ⟨⟨_, cell_set1 hg _, by simp [hcl], ?_⟩, hb.setCell (Nat.le_refl _) _⟩
        rw [set1_take _ _ _ (by omega), ht]
        obtain ⟨hk', e⟩ := List.getElem?_eq_some_iff.1 hx
        rw [List.take_succ_eq_append_getElem hk', lens_append, e]
        simp [nats, lens, hy]
      clear hg hcl ht hx hrd hy
      go_wp2_with fail
      go_roundw
      case rel => exact ⟨k + 1, by go_num, by omega, HN⟩
      case measure => simp [intOf]; omega
    · obtain rfl : k = n := by omega
      have HF : Hid (wr.ownsRow w.heap.size 3 1 (.slice (some ⟨w.heap.size, 0, none⟩) k k) k (nats (lens L))) := by
        have ho := own_of (B := w.heap.size) (n := k) (cap := k) (size := 1) hg (Nat.le_refl _) (Nat.le_refl _) (by unfold maxLen; omega) (by rw [List.size_toArray, hcl]; omega)
        rw [Nat.mul_one, show cur.toArray.toList.take k = nats (lens (L.take k)) from ht, List.take_of_length_le (by have := HL.out; omega)] at ho
        exact ho
      clear hg hcl ht
      go_wp2_with fail
      go_ret
      exact ⟨rfl, HF.out, hb⟩

/-- where the first 10 of a row is -/
def firstOf (x : List Int) (v : Int) : Option Nat := x.findIdx? (· == v)

theorem index_any (a : Option Addr) (n c : Nat) (x : List Int) (v : Int) (w : World) (h : Rd .i32 w a n c x) :
    Calls Try.prog 65 #[.slice a n c, .int .i32 v] w fun e w' => (∃ r : Int, e = .returned (.int .i64 r) ∧ ((r = -1 ∧ v ∉ x) ∨ ∃ k : Nat, r = k ∧ k < n ∧ x[k]? = some v ∧ v ∉ x.take k)) ∧ w = w' := by
  have hsm := h.small
  have hl := h.1
  have HL := Lib.hid hl
  have H := Lib.hid h
  clear h hl
  go_enter Try.func65, Try.ntmps65
  go_wp2_with fail
  go_loop [8] (fun v8 => ∃ k : Nat, k ≤ n ∧ v8 = .int .i64 k ∧ Hid (v ∉ x.take k)) (fun v8 => n - (intOf v8).toNat)
  case atStart => exact ⟨0, Nat.zero_le _, rfl, by show ¬ _; simp⟩
  case round =>
    obtain ⟨k, hk, rfl, hno⟩ := hrel
    by_cases hlt : k < n
    · obtain ⟨b, off, ha, hc⟩ := H.out.2.2.2.2.2 (by omega)
      have cx := hc k hlt
      have hbl := block_lt_of_cell cx
      obtain ⟨y, hy⟩ : ∃ y, x.getD k 0 = y := ⟨_, rfl⟩
      rw [hy] at cx
      have hxk : x[k]? = some y := by
        rw [← hy, List.getD_eq_getElem?_getD, List.getElem?_eq_getElem (by have := HL.out; omega)]; rfl
      subst ha
      have HXK := Lib.hid hxk
      clear hc hy hxk
      by_cases hvy : v = y
      · have heq : (v == y) = true := by simp [hvy]
        have HF : Hid (∃ r : Int, Ending.returned (.int .i64 (k : Nat)) = Ending.returned (.int .i64 r) ∧ ((r = -1 ∧ v ∉ x) ∨ ∃ k : Nat, r = k ∧ k < n ∧ x[k]? = some v ∧ v ∉ x.take k)) := ⟨k, rfl, .inr ⟨k, rfl, hlt, by rw [HXK.out, hvy], hno.out⟩⟩
        clear hvy hno
        go_wp2_with fail
        go_ret
        exact ⟨HF.out, rfl⟩
      · have hne : (v == y) = false := by simp [hvy]
        have HN : Hid (v ∉ x.take (k + 1)) := by
          show ¬ _
          obtain ⟨hk', e⟩ := List.getElem?_eq_some_iff.1 HXK.out
          rw [List.take_succ_eq_append_getElem hk', e]
          simp only [List.mem_append, List.mem_singleton, not_or]
          exact ⟨hno.out, hvy⟩
        clear hvy hno
        go_wp2_with fail
        go_round
        case rel => exact ⟨k + 1, by omega, by go_num, HN⟩
        case measure => simp [intOf]; omega
    · obtain rfl : k = n := by omega
      have HF : Hid (∃ r : Int, Ending.returned (.int .i64 (-1)) = Ending.returned (.int .i64 r) ∧ ((r = -1 ∧ v ∉ x) ∨ ∃ k' : Nat, r = k' ∧ k' < k ∧ x[k']? = some v ∧ v ∉ x.take k')) := ⟨-1, rfl, .inl ⟨rfl, by have := hno.out; rwa [List.take_of_length_le (by have := HL.out; omega)] at this⟩⟩
      clear hno
      go_wp2_with fail
      go_ret
      exact ⟨HF.out, rfl⟩

def has10 (x : List Int) : Bool := x.elem 10
theorem has10_iff {x : List Int} : has10 x = true ↔ (10 : Int) ∈ x := by simp [has10]
theorem contains_any (a : Option Addr) (n c : Nat) (x : List Int) (w : World) (h : Rd .i32 w a n c x) :
    Calls Try.prog 60 #[.slice a n c, .int .i32 10] w fun e w' => e = .returned (.bool (has10 x)) ∧ w = w' := by
  have HI := Lib.hid (index_any a n c x 10 w h)
  have hsm := h.small
  obtain ⟨T, hT⟩ : ∃ T, has10 x = T := ⟨_, rfl⟩
  have HT := Lib.hid hT
  rw [hT]
  clear h hT
  go_enter Try.func60, Try.ntmps60
  go_wp2_with fail
  refine HI.out.mono ?_
  rintro e w' ⟨⟨r, rfl, hr⟩, rfl⟩
  rcases hr with ⟨rfl, hno⟩ | ⟨k, rfl, hk, hx, _⟩
  · have e : T = false := by
      cases hh : T
      · rfl
      · exact absurd (has10_iff.1 (HT.out.trans hh)) hno
    subst e
    clear hno
    go_wp2_with fail
    go_ret
    exact ⟨rfl, rfl⟩
  · have e : T = true := HT.out.symm.trans (has10_iff.2 (List.mem_of_getElem? hx))
    subst e
    clear hx
    go_wp2_with fail
    go_ret
    exact ⟨rfl, rfl⟩
theorem have1 (a : Option Addr) (n c : Nat) (x : List Int) (w : World) (h : Rd .i32 w a n c x) :
    Calls Try.prog 59 #[.slice a n c] w fun e w' => e = .returned (.bool (has10 x)) ∧ w = w' := by
  have HC := Lib.hid (contains_any a n c x w h)
  clear h
  go_enter Try.func59, Try.ntmps59
  go_wp2_with (go_at_call 60; refine HC.out.mono ?_; rintro e w' ⟨rfl, rfl⟩)
  go_ret
  exact ⟨rfl, rfl⟩
theorem take_snocI {L : List (List Int)} {k : Nat} {x : List Int} (h : L[k]? = some x) : L.take (k + 1) = L.take k ++ [x] := by
  obtain ⟨hk, e⟩ := List.getElem?_eq_some_iff.1 h
  rw [List.take_succ_eq_append_getElem hk, e]
def IdxP (L : List (List Int)) (e : Ending) : Prop := ∃ r : Int, e = .returned (.int .i64 r) ∧ ((r = -1 ∧ L.any has10 = false) ∨ ∃ k : Nat, r = k ∧ L.any has10 = true)
theorem indexFunc_any (F : Nat → Prop) (a : Option Addr) (n c : Nat) (L : List (List Int)) (w : World) (h : RdL F w a n c L) :
    Calls Try.prog 67 #[.slice a n c, .func (.func 59) #[] #[]] w fun e w' => IdxP L e ∧ w = w' := by
  have hsm := h.small
  have hl := h.len
  have HL := Lib.hid hl
  have H := Lib.hid h
  clear h hl
  go_enter Try.func67, Try.ntmps67
  go_wp2_with fail
  go_loop [8] (fun v8 => ∃ k : Nat, k ≤ n ∧ v8 = .int .i64 k ∧ Hid ((L.take k).any has10 = false)) (fun v8 => n - (intOf v8).toNat)
  case atStart => exact ⟨0, Nat.zero_le _, rfl, by show _ = _; simp⟩
  case round =>
    obtain ⟨k, hk, rfl, hno⟩ := hrel
    by_cases hlt : k < n
    · obtain ⟨x, hx⟩ : ∃ x, L[k]? = some x := ⟨_, List.getElem?_eq_getElem (by have := HL.out; omega)⟩
      obtain ⟨b, off, ra, rc, rfl, hb, _, hc, hrd, _⟩ := H.out.get (Below.refl _ _) hx
      have HC := Lib.hid (have1 _ _ _ _ _ hrd)
      have HX := Lib.hid hx
      cases hh : has10 x with
      | true =>
        rw [hh] at HC
        have HF : Hid (IdxP L (.returned (.int .i64 (k : Nat)))) := ⟨k, rfl, .inr ⟨k, rfl, by
          rw [List.any_eq_true]
          exact ⟨x, List.mem_of_getElem? HX.out, hh⟩⟩⟩
        clear hno hx hrd hh
        go_wp2_with (go_at_call 59; refine HC.out.mono ?_; rintro e w' ⟨rfl, rfl⟩)
        go_ret
        exact ⟨HF.out, rfl⟩
      | false =>
        rw [hh] at HC
        have HN : Hid ((L.take (k + 1)).any has10 = false) := by
          show _ = _
          rw [take_snocI HX.out, List.any_append, hno.out]
          simp [hh]
        clear hno hx hrd hh
        go_wp2_with (go_at_call 59; refine HC.out.mono ?_; rintro e w' ⟨rfl, rfl⟩)
        go_round
        case rel => exact ⟨k + 1, by omega, by go_num, HN⟩
        case measure => simp [intOf]; omega
    · obtain rfl : k = n := by omega
      have HF : Hid (IdxP L (.returned (.int .i64 (-1)))) := ⟨-1, rfl, .inl ⟨rfl, by have := hno.out; rwa [List.take_of_length_le (by have := HL.out; omega)] at this⟩⟩
      clear hno
      go_wp2_with fail
      go_ret
      exact ⟨HF.out, rfl⟩
theorem containsFunc_any (F : Nat → Prop) (a : Option Addr) (n c : Nat) (L : List (List Int)) (w : World) (h : RdL F w a n c L) :
    Calls Try.prog 58 #[.slice a n c, .func (.func 59) #[] #[]] w fun e w' => e = .returned (.bool (L.any has10)) ∧ w = w' := by
  have HI := Lib.hid (indexFunc_any F a n c L w h)
  obtain ⟨T, hT⟩ : ∃ T, L.any has10 = T := ⟨_, rfl⟩
  have HT := Lib.hid hT
  rw [hT]
  clear h hT
  go_enter Try.func58, Try.ntmps58
  go_wp2_with fail
  refine HI.out.mono ?_
  rintro e w' ⟨⟨r, rfl, hr⟩, rfl⟩
  rcases hr with ⟨rfl, hno⟩ | ⟨k, rfl, hk⟩
  · rw [HT.out] at hno
    subst hno
    clear HI HT
    go_wp2_with fail
    go_ret
    exact ⟨rfl, rfl⟩
  · rw [HT.out] at hk
    subst hk
    clear HI HT
    go_wp2_with fail
    go_ret
    exact ⟨rfl, rfl⟩
theorem haveEnd_any (F : Nat → Prop) (a : Option Addr) (n c : Nat) (L : List (List Int)) (w : World) (h : RdL F w a n c L) :
    Calls Try.prog 41 #[.slice a n c] w fun e w' => e = .returned (.bool (L.any has10)) ∧ w = w' := by
  have HI := Lib.hid (containsFunc_any F a n c L w h)
  clear h
  go_enter Try.func41, Try.ntmps41
  go_wp2_with (go_at_call 58; refine HI.out.mono ?_; rintro e w' ⟨rfl, rfl⟩)
  go_ret
  exact ⟨rfl, rfl⟩
theorem plain_iff {L : List (List Int)} : L.any has10 = false ↔ plainL L := by
  unfold plainL
  rw [List.any_eq_false]
  constructor
  · intro h x hx hm
    exact h x hx (has10_iff.2 hm)
  · intro h x hx hh
    exact h x hx (has10_iff.1 hh)

theorem makeIc (w : World) (n c : Nat) (hn : n ≤ c) (hc : c ≤ 1073741824) : (Instr.makeSlice 31 (.int .i64 n) (.int .i64 c)).run Try.prog w = .ok (.slice (some ⟨w.heap.size, 0, none⟩) n c) (w.alloc (.cells (madeCells #[.int .i32 0] c) 21)) := by
  obtain ⟨i, hi, hz0, hz1, hz2⟩ := info_parts infoI
  have hr := run_make (P := Try.prog) w 31 21 i _ Try.underlying31 hi hz0 .i64 .i64 n c (by omega) (by omega) (by rw [hz2]; omega) (by omega)
  simpa [hz1, Value.cells] using hr

theorem joinL_len_le (L : List (List Int)) : (joinL L).length ≤ sizeN (lens L) := by
  by_cases h : L = []
  · subst h; simp [joinL_nil]
  · have := joinL_len h; omega

set_option maxHeartbeats 1000000 in
theorem joined_any (F : Nat → Prop) (a : Option Addr) (n c : Nat) (L : List (List Int)) (w : World) (h : RdL F w a n c L) (hs : sizeN (lens L) ≤ 1048576) :
    Calls Try.prog 43 #[.slice a n c] w fun e w' => ∃ a' c', e = .returned (.slice a' (joinL L).length c') ∧ w'.ownsRow w.heap.size 21 1 (.slice a' (joinL L).length c') (joinL L).length (ints (joinL L)) ∧ Below w.heap.size w w' := by
  have hsm := h.small
  have hl := h.len
  have HSZ := Lib.hid (sizeOf_any F a n c L w h (by omega))
  obtain ⟨Z, hZ⟩ : ∃ Z, sizeN (lens L) = Z := ⟨_, rfl⟩
  rw [hZ] at HSZ hs
  have hmk : (Instr.makeSlice 31 (.int .i64 0) (.int .i64 Z)).run Try.prog w = _ := makeIc w 0 Z (Nat.zero_le _) (by omega)
  obtain ⟨w0, hw0⟩ : ∃ w0, w.alloc (.cells (madeCells #[.int .i32 0] Z) 21) = w0 := ⟨_, rfl⟩
  rw [hw0] at hmk
  have HB0 : Hid (Below w.heap.size w w0) := by show Below _ _ _; rw [← hw0]; exact (Below.refl _ _).alloc (Nat.le_refl _) _
  have HO0 : Hid (w0.ownsRow w.heap.size 21 1 (.slice (some ⟨w.heap.size, 0, none⟩) 0 Z) 0 (ints (joinL (L.take 0)))) := by
    show World.ownsRow _ _ _ _ _ _ _
    rw [← hw0]
    have := own_of (B := w.heap.size) (n := 0) (cap := Z) (size := 1) (heap_alloc_new w (.cells (madeCells #[.int .i32 0] Z) 21)) (Nat.le_refl _) (Nat.zero_le _) (by unfold maxLen; omega) (by rw [size_madeCells]; omega)
    simpa [joinL_nil, ints] using this
  have HL := Lib.hid hl
  have H := Lib.hid h
  have HZ := Lib.hid hZ
  clear h hl hw0 hZ
  go_enter Try.func43, Try.ntmps43
  go_wp2_with (go_at_call 40; refine HSZ.out.mono ?_; rintro e w' ⟨rfl, rfl⟩)
  go_loopw [3, 11] (fun v3 v11 wr => ∃ (k m : Nat) (ra : Option Addr) (rc : Nat), v11 = .int .i64 k ∧ v3 = .slice ra m rc ∧ k ≤ n ∧ m ≤ 1048576 ∧ Hid (m = (joinL (L.take k)).length ∧ wr.ownsRow w.heap.size 21 1 (.slice ra m rc) m (ints (joinL (L.take k))) ∧ Below w.heap.size w wr)) (fun _ v11 _ => n - (intOf v11).toNat)
  case atStart => exact ⟨0, 0, _, _, rfl, rfl, Nat.zero_le _, Nat.zero_le _, rfl, HO0.out, HB0.out⟩
  case round =>
    obtain ⟨k, m, ra, rc, rfl, rfl, hk, hm, hst⟩ := hrel
    clear HO0 HB0 hmk HSZ
    obtain ⟨hml, ho, hb⟩ := hst.out
    clear hst
    by_cases hlt : k < n
    · obtain ⟨x, hx⟩ : ∃ x, L[k]? = some x := ⟨_, List.getElem?_eq_getElem (by have := HL.out; omega)⟩
      obtain ⟨b, off, xa, xc, rfl, hbl, _, hc, hrd, _⟩ := H.out.get hb hx
      have hbw : b < wr.heap.size := by have := hb.size; omega
      have hjl := joinL_len_le (L.take (k + 1))
      have hsl := size_take_le L (k + 1)
      have hbz := hb.size
      rw [HZ.out] at hsl
      have hsn := joinL_snoc (L.take k) x
      rw [← take_snocI hx] at hsn
      by_cases hk0 : k = 0
      · subst hk0
        rw [List.take_zero, if_pos rfl, List.nil_append] at hsn
        rw [List.take_zero, joinL_nil] at ho hml
        simp only [List.length_nil] at hml
        subst hml
        obtain ⟨a2, c2, w2, hrun, ho2, hb2⟩ := app_rd wr w.heap.size _ 0 [] xa x.length xc x ho hb.size hrd (by rw [hsn] at hjl; omega)
        rw [Nat.zero_add] at hrun ho2
        rw [List.nil_append] at ho2
        have HRUN := Lib.hid hrun
        obtain ⟨y, hy⟩ : ∃ y, x.length = y := ⟨_, rfl⟩
        have hyb : y ≤ 1048576 := by rw [hsn] at hjl; omega
        have HN : Hid (y = (joinL (L.take 1)).length ∧ w2.ownsRow w.heap.size 21 1 (.slice a2 y c2) y (ints (joinL (L.take 1))) ∧ Below w.heap.size w w2) := by
          rw [← hy]
          have hsn' : joinL (L.take 1) = x := hsn
          exact ⟨by rw [hsn'], by rw [hsn']; exact ho2, hb.trans hb2⟩
        rw [hy] at hc HRUN
        clear hx hrd hjl hsl hsn ho hrun ho2 hb2 hy
        rw [Nat.add_zero] at hc
        go_wp2_with (at_builtin; go_must (with_reducible refine Lib.wpList_append_run _ rfl (.tmp 21) (.tmp 22) _ _ rfl _ _ rfl rfl _ _ (HRUN.out _) ?_))
        go_roundw
        case rel => exact ⟨1, y, a2, c2, by go_num, rfl, by omega, hyb, HN⟩
        case measure => simp [intOf]; omega
      · have hne : L.take k ≠ [] := by
          intro e
          have := congrArg List.length e
          rw [List.length_take, HL.out, List.length_nil] at this
          omega
        rw [if_neg hne] at hsn
        have hlen := congrArg List.length hsn
        simp only [List.length_append, List.length_cons, List.length_nil] at hlen
        have hba : Below w.heap.size w (wr.alloc (.cells #[.int .i32 10] 21)) := hb.alloc hb.size _
        have hr10 := Rd_new .i32 wr [10] #[.int .i32 10] 21 1 rfl rfl (by unfold maxLen; omega) (by decide)
        obtain ⟨a2, c2, w2, hrun, ho2, hb2⟩ := app_rd (wr.alloc (.cells #[.int .i32 10] 21)) w.heap.size _ m _ (some ⟨wr.heap.size, 0, none⟩) 1 1 [10] (ho.alloc _) hba.size hr10 (by omega)
        have hb12 := hba.trans hb2
        have hx2 : Rd .i32 w2 xa x.length xc x := by
          obtain ⟨b', off', xa', xc', e1, _, _, e4, e5, _⟩ := H.out.get hb12 hx
          have e6 := (hb12.cell (p := ⟨b, off + k, none⟩) hbl)
          have e7 := (hb.cell (p := ⟨b, off + k, none⟩) hbl)
          cases e1
          rw [e6, ← e7, hc] at e4
          injection e4 with e4
          injection e4 with q1 q2 q3
          subst q1 q3
          exact e5
        obtain ⟨a3, c3, w3, hrun3, ho3, hb3⟩ := app_rd w2 w.heap.size _ (m + 1) _ xa x.length xc x ho2 hb12.size hx2 (by omega)
        have HRUN := Lib.hid hrun
        have HRUN3 := Lib.hid hrun3
        obtain ⟨y, hy⟩ : ∃ y, x.length = y := ⟨_, rfl⟩
        have hyb : m + 1 + y ≤ 1048576 := by omega
        have hc2' := (hb12.cell (p := ⟨b, off + k, none⟩) hbl).trans ((hb.cell (p := ⟨b, off + k, none⟩) hbl).symm.trans hc)
        have hb2l : b < w2.heap.size := by have := hb12.size; omega
        have HN : Hid (m + 1 + y = (joinL (L.take (k + 1))).length ∧ w3.ownsRow w.heap.size 21 1 (.slice a3 (m + 1 + y) c3) (m + 1 + y) (ints (joinL (L.take (k + 1)))) ∧ Below w.heap.size w w3) := by
          rw [← hy]
          exact ⟨by omega, by rw [hsn]; exact ho3, hb12.trans hb3⟩
        rw [hy] at hc HRUN3 hc2'
        have hk0' : 0 < k := by omega
        clear hx hrd hjl hsl hsn ho hrun ho2 hb2 hy hrun3 ho3 hb3 hx2 hr10 hba hb12 hlen hne hml
        go_wp2_with (at_builtin; go_must (first
          | (with_reducible refine Lib.wpList_append_run _ rfl (.tmp 18) (.tmp 19) _ _ rfl _ _ rfl rfl _ _ (HRUN.out _) ?_)
          | (with_reducible refine Lib.wpList_append_run _ rfl (.tmp 21) (.tmp 22) _ _ rfl _ _ rfl rfl _ _ (HRUN3.out _) ?_)))
        go_roundw
        case rel => exact ⟨k + 1, m + 1 + y, a3, c3, by go_num, rfl, by omega, hyb, HN⟩
        case measure => simp [intOf]; omega
    · obtain rfl : k = n := by omega
      rw [List.take_of_length_le (by have := HL.out; omega)] at ho hml
      have HF : Hid (∃ a' c', Ending.returned (.slice ra m rc) = Ending.returned (.slice a' (joinL L).length c') ∧ wr.ownsRow w.heap.size 21 1 (.slice a' (joinL L).length c') (joinL L).length (ints (joinL L)) ∧ Below w.heap.size w wr) := by
        rw [← hml]
        exact ⟨_, _, rfl, ho, hb⟩
      clear ho hml
      go_wp2_with fail
      go_ret
      exact HF.out

/-- lines that the call made: their slices lie in a row of its own -/
def OwnL (B : Nat) (F : Nat → Prop) (w : World) (a : Option Addr) (n c : Nat) (L : List (List Int)) : Prop := ∃ vs, w.ownsRow B 31 1 (.slice a n c) n vs ∧ RowsAt F w vs L
theorem OwnL.len {B F w a n c L} (h : OwnL B F w a n c L) : L.length = n := by
  obtain ⟨vs, h1, h2⟩ := h
  have := h1.1
  rw [← h2.1]; omega
theorem OwnL.rdl {B : Nat} {F G : Nat → Prop} {w : World} {a : Option Addr} {n c : Nat} {L : List (List Int)} (h : OwnL B F w a n c L) (hB : ∀ k, B ≤ k → G k) (hF : ∀ k, F k → G k) : RdL G w a n c L := by
  obtain ⟨vs, h1, h2⟩ := h
  exact ⟨vs, Rc.own h1, InF.own h1 (fun k e => hB k (h1.lt k e).1), h2.mono hF⟩
/-- append of one slice -/
theorem app_one (w : World) (B : Nat) (F : Nat → Prop) (a : Option Addr) (n c : Nat) (L : List (List Int)) (h : OwnL B F w a n c L) (hB : B ≤ w.heap.size) (hFB : ∀ k, F k → ∀ g, a = some ⟨g, 0, none⟩ → k ≠ g) (ra : Option Addr) (m rc : Nat) (x : List Int) (hr : Rd .i32 w ra m rc x) (hi : InF F ra m) (hn : n ≤ 1099511627776) :
    ∃ a' c' w', (∀ ty, (Builtin.append_ #[22, 22] ty #[.slice a n c, .slice (some ⟨w.heap.size, 0, none⟩) 1 1]).run Try.prog (w.alloc (.cells #[.slice ra m rc] 31)) = .ok (.slice a' (n + 1) c') w') ∧
      OwnL B F w' a' (n + 1) c' (L ++ [x]) ∧ Below B w w' ∧ (∀ g, a' = some ⟨g, 0, none⟩ → (∃ g', a = some ⟨g', 0, none⟩ ∧ g = g') ∨ w.heap.size ≤ g) := by
  obtain ⟨vs, h1, h2⟩ := h
  obtain ⟨i0, hi0, hz0, hz1, hz2⟩ := info_parts infoS
  have hg := heap_alloc_new w (.cells #[.slice ra m rc] 31)
  have hb0 : Below w.heap.size w (w.alloc (.cells #[.slice ra m rc] 31)) := (Below.refl _ _).alloc (Nat.le_refl _) _
  obtain ⟨v', w', hrun, hown, hfr, hnear⟩ := run_append_own_k (P := Try.prog) (w.alloc (.cells #[.slice ra m rc] 31)) B 22 31 i0 _ 1 24 Try.underlying22 hi0 hz0 hz1 hz2 rfl (by decide) (.slice a n c) n vs (h1.alloc _) (some ⟨w.heap.size, 0, none⟩) 1 1 [.slice ra m rc] rfl
    (fun _ => ⟨_, rfl, fun j u hu => by rw [add_lit, cell_row hg]; simpa using hu⟩) (by intro u hu; simp only [List.mem_singleton] at hu; subst hu; rfl) (by unfold maxLen; omega) (by omega) (by simp; omega)
  obtain ⟨a', c', rfl⟩ := own_slice hown
  have hbB : Below B w w' := (hb0.mono hB).trans (hfr.below (by simp; omega) (fun k e => (h1.lt k e.symm).1))
  refine ⟨a', c', w', hrun, ⟨_, hown, ?_⟩, hbB, ?_⟩
  · have hd : ∀ k, F k → ¬ (fun k => some k = (Value.slice a n c).ownBlock) k := by
      intro k hF e
      cases a with
      | none => cases e
      | some ad =>
        rcases h1.2 with ⟨hv, _⟩ | ⟨g, cap, cur, hv, _⟩
        · injection hv with e1; cases e1
        · injection hv with e1
          cases e1
          cases e
          exact hFB _ hF _ rfl rfl
    exact ((h2.below hb0).append (RowsAt.one (hr.below hb0) hi)).frF hfr hd
  · intro g e
    subst e
    rcases hnear with h | h
    · cases a with
      | none => cases h
      | some ad =>
        rcases h1.2 with ⟨hv, _⟩ | ⟨g', cap, cur, hv, _⟩
        · injection hv with e1; cases e1
        · injection hv with e1
          cases e1
          cases h
          exact .inl ⟨_, rfl, rfl⟩
    · cases h
      exact .inr (by simp)

theorem split_step {x : List Int} {k : Nat} (hk : x[k]? = some 10) (hno : (10 : Int) ∉ x.take k) : splitL x = x.take k :: splitL (x.drop (k + 1)) := by
  obtain ⟨hl, e⟩ := List.getElem?_eq_some_iff.1 hk
  have h : x = x.take k ++ 10 :: x.drop (k + 1) := by
    conv => lhs; rw [← List.take_append_drop k x, List.drop_eq_getElem_cons hl, e]
  conv => lhs; rw [h]
  exact split_end hno _

set_option maxHeartbeats 2000000 in
theorem parted_any (F : Nat → Prop) (a : Option Addr) (n c : Nat) (x : List Int) (w : World) (h : Rd .i32 w a n c x) (hi : InF F a n) (hF : ∀ k, F k → k < w.heap.size) (hn : n ≤ 1048576) :
    Calls Try.prog 47 #[.slice a n c] w fun e w' => ∃ a' c', e = .returned (.slice a' (splitL x).length c') ∧ OwnL w.heap.size F w' a' (splitL x).length c' (splitL x) ∧ Below w.heap.size w w' := by
  obtain ⟨S, hS⟩ : ∃ S, splitL x = S := ⟨_, rfl⟩
  have hcnt := split_count x
  have hxl := h.1
  rw [hS, hxl] at hcnt
  rw [hS]
  have HST : Hid ([] ++ splitL x = S ∧ Rd .i32 w a n c x ∧ InF F a n ∧ OwnL w.heap.size F w none 0 0 [] ∧ (∀ g, (none : Option Addr) = some ⟨g, 0, none⟩ → w.heap.size ≤ g) ∧ Below w.heap.size w w) := ⟨hS, h, hi, ⟨[], World.ownsRow_nil _ _ _ _, RowsAt.nil _ _⟩, (fun g e => by cases e), Below.refl _ _⟩
  have HF := Lib.hid hF
  have HCNT := Lib.hid hcnt
  clear h hi hS hxl hcnt hF
  go_enter Try.func47, Try.ntmps47
  go_wp2_with fail
  go_loopw [0, 3] (fun v0 v3 wr => ∃ (ra : Option Addr) (rn rc : Nat) (la : Option Addr) (ln lc : Nat), v0 = .slice ra rn rc ∧ v3 = .slice la ln lc ∧ rn ≤ n ∧ Hid (∃ D y, D ++ splitL y = S ∧ Rd .i32 wr ra rn rc y ∧ InF F ra rn ∧ OwnL w.heap.size F wr la ln lc D ∧ (∀ g, la = some ⟨g, 0, none⟩ → w.heap.size ≤ g) ∧ Below w.heap.size w wr)) (fun v0 _ _ => (match v0 with | .slice _ n _ => n | _ => 0))
  case atStart => exact ⟨_, _, _, _, _, _, rfl, rfl, Nat.le_refl _, [], x, HST.out⟩
  case round =>
    obtain ⟨ra, rn, rc, la, ln, lc, rfl, rfl, hrn, hst⟩ := hrel
    clear HST
    obtain ⟨D, y, hD, hrd, hin, hown, hla, hb⟩ := hst.out
    clear hst
    have HIX := Lib.hid (index_any ra rn rc y 10 wr hrd)
    have hDl := hown.len
    have hlS : ln + (splitL y).length = S.length := by rw [← hDl, ← hD, List.length_append]
    have hyl := hrd.1
    have hsp : 0 < (splitL y).length := List.length_pos_iff.2 (splitL_ne y)
    have hlnb : ln ≤ 1048577 := by have := HCNT.out; omega
    have hrcm : rc ≤ 9223372036854775807 := by have := hrd.2.2.1; unfold maxLen at this; omega
    have hrcc : rn ≤ rc := hrd.2.1
    have hFB : ∀ k, F k → ∀ g, la = some ⟨g, 0, none⟩ → k ≠ g := fun k hk g e => by have := HF.out k hk; have := hla g e; omega
    have HD := Lib.hid hD
    have HRD := Lib.hid hrd
    have HIN := Lib.hid hin
    have HOWN := Lib.hid hown
    have HLA := Lib.hid hla
    have HBB := Lib.hid hb
    have HFB := Lib.hid hFB
    have HYL := Lib.hid hyl
    have HLS := Lib.hid hlS
    clear hD hrd hin hown hla hb hFB hyl hlS hDl
    go_wp2_with fail
    refine HIX.out.mono ?_
    rintro e w' ⟨⟨r, rfl, hr⟩, rfl⟩
    rcases hr with ⟨rfl, hno⟩ | ⟨k, rfl, hk, hx, hno⟩
    · obtain ⟨a', c', w2, hrun, ho2, hb2, _⟩ := app_one wr w.heap.size F la ln lc D HOWN.out HBB.out.size HFB.out ra rn rc y HRD.out HIN.out (by omega)
      have HRUN := Lib.hid hrun
      have e1 := split_one hno
      have HFIN : Hid (∃ a'' c'', Ending.returned (.slice a' (ln + 1) c') = Ending.returned (.slice a'' S.length c'') ∧ OwnL w.heap.size F w2 a'' S.length c'' S ∧ Below w.heap.size w w2) := by
        have e2 : S = D ++ [y] := by rw [← HD.out, e1]
        have e3 : S.length = ln + 1 := by have := HLS.out; rw [e1] at this; simp at this; omega
        rw [e3, e2]
        exact ⟨a', c', rfl, ho2, HBB.out.trans hb2⟩
      clear hno hrun ho2 hb2 e1 hsp
      go_wp2_with (at_builtin; go_must (with_reducible refine Lib.wpList_append_run _ rfl _ _ _ _ rfl _ _ rfl rfl _ _ (HRUN.out _) ?_))
      go_ret
      exact HFIN.out
    · have hst := split_step hx hno
      obtain ⟨a', c', w2, hrun, ho2, hb2, hg2⟩ := app_one wr w.heap.size F la ln lc D HOWN.out HBB.out.size HFB.out ra k rc (y.take k) (HRD.out.take k (by omega)) (HIN.out.take (by omega)) (by omega)
      have HRUN := Lib.hid hrun
      obtain ⟨ta, hta, htr, hti⟩ : ∃ ta, (if rc = k + 1 then ra else ra.map (·.add ((k + 1) * 1))) = ta ∧ Rd .i32 w2 ta (rn - (k + 1)) (rc - (k + 1)) (y.drop (k + 1)) ∧ InF F ta (rn - (k + 1)) := by
        refine ⟨_, rfl, ?_, HIN.out.drop (by omega)⟩
        have hfr : Fr (fun k => w.heap.size ≤ k) wr w2 := ⟨hb2.os, hb2.tape, hb2.output, hb2.size, fun k hk hF => hb2.block k (by omega)⟩
        exact (HRD.out.frF HIN.out hfr (fun k hk => by have := HF.out k hk; omega)).drop (k + 1) (by omega)
      have HN : Hid (∃ D y, D ++ splitL y = S ∧ Rd .i32 w2 ta (rn - (k + 1)) (rc - (k + 1)) y ∧ InF F ta (rn - (k + 1)) ∧ OwnL w.heap.size F w2 a' (ln + 1) c' D ∧ (∀ g, a' = some ⟨g, 0, none⟩ → w.heap.size ≤ g) ∧ Below w.heap.size w w2) := by
        refine ⟨D ++ [y.take k], y.drop (k + 1), ?_, htr, hti, ho2, fun g e => ?_, HBB.out.trans hb2⟩
        · rw [← HD.out, hst]; simp
        · rcases hg2 g e with ⟨g', e1, e2⟩ | h
          · subst e2; exact HLA.out g e1
          · have := HBB.out.size; omega
      have HTA := Lib.hid hta
      have q1 : ¬ ((k : Int) < 0) := by omega
      have q2 : IntKind.i64.wrap ((k : Int) + 1) = (k : Int) + 1 := by rw [IntKind.wrap_i64]; omega
      have q3 : k ≤ rc := by omega
      have q4 : (k : Int) + 1 ≤ (rn : Int) := by omega
      clear hst hx hno hrun htr hti ho2 hb2 hg2 hta hsp
      by_cases hcn : rc = k + 1
      · rw [if_pos hcn] at HTA
        have hta := HTA.out
        subst hta
        have hcn2 := eq_true hcn
        have HCN := Lib.hid hcn
        clear hcn
        go_wp2_with (at_builtin; go_must (with_reducible refine Lib.wpList_append_run _ rfl _ _ _ _ rfl _ _ rfl rfl _ _ (HRUN.out _) ?_))
        go_roundw
        case rel => exact ⟨_, _, _, _, _, _, rfl, rfl, by omega, HN⟩
        case measure => simp; omega
      · rw [if_neg hcn, Nat.mul_one] at HTA
        have hta := HTA.out
        subst hta
        go_wp2_with (at_builtin; go_must (with_reducible refine Lib.wpList_append_run _ rfl _ _ _ _ rfl _ _ rfl rfl _ _ (HRUN.out _) ?_))
        go_roundw
        case rel => exact ⟨_, _, _, _, _, _, rfl, rfl, by omega, HN⟩
        case measure => simp; omega
end Go.Proofs.Ytndlebopfojjeaa.U
