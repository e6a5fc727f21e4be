/-
  Contracts of the document's own answer of layer 1: Valid, One, value, same, Encode.
-/
import Derived.Test.YtcjngpgicegacaaUDec
import Derived.Test.YtcjngpgicegacaaUPureD
namespace Go.Proofs.Ytcjngpgicegacaa.U
open Go.RowKit
set_option linter.unusedVariables false
set_option linter.unusedSimpArgs false

theorem refValid_any (r : Int) (w : World) :
    Calls Try.prog 15 #[.int .i32 r] w fun e w' => e = .returned (.bool (validB r)) ∧ w = w' := by
  go_enter Try.func15, Try.ntmps15
  go_wp2
  all_goals go_ret
  all_goals exact ⟨ret_bool (by unfold validB; rw [Bool.eq_iff_iff]; simp; omega), rfl⟩
theorem refValid_is (r : Int) (b : Bool) (w : World) (h : Hid (validB r = b)) :
    Calls Try.prog 15 #[.int .i32 r] w fun e w' => e = .returned (.bool b) ∧ w = w' := by
  have := h.out; subst this; exact refValid_any r w

/-- the document's bytes of a rune -/
theorem refOne_any (r : Int) (w : World) :
    Calls Try.prog 17 #[.int .i32 r] w fun e w' => ∃ v, e = .returned v ∧ w'.ownsRow w.heap.size 5 1 v (encB (scal r)).length ((encB (scal r)).map (Value.int .u8)) ∧ Below w.heap.size w w' := by
  have fin : ∀ (cs : List Value) (n : Nat), cs.length = n → n ≤ 4 → (w.alloc (.cells cs.toArray 5)).ownsRow w.heap.size 5 1 (.slice (some ⟨w.heap.size, 0, none⟩) n n) n cs :=
    fun cs n h1 h2 => own_of_row (heap_alloc_new w _) (Nat.le_refl _) ⟨rfl, h1⟩ (by unfold maxLen; omega)
  have HFIN := Lib.hid fin; clear fin
  by_cases hv : validB r = true
  · have hb := hv
    unfold validB at hb
    simp only [decide_eq_true_eq] at hb
    rw [scal_of_valid hv]
    have HV : Hid (validB r = true) := hv
    clear hv
    by_cases c1 : r ≤ 127
    · have he : encB r = [r] := by unfold encB; rw [if_pos c1]
      rw [he]
      have HE := Lib.hid he; clear he
      have c1' : r < 128 := by omega
      go_enter Try.func17, Try.ntmps17
      go_wp2_with (go_at_call 15; refine (refValid_is r true _ HV).mono ?_; rintro e w' ⟨rfl, rfl⟩)
      go_ret
      exact ⟨_, rfl, HFIN.out [.int .u8 r] 1 rfl (by omega), (Below.refl _ _).alloc (Nat.le_refl _) _⟩
    by_cases c2 : r ≤ 2047
    · have he : encB r = [192 + r / 64, 128 + r % 64] := by unfold encB; rw [if_neg c1, if_pos c2]
      rw [he]
      have HE := Lib.hid he; clear he
      have c1' : ¬ r < 128 := by omega
      have c2' : r < 2048 := by omega
      go_enter Try.func17, Try.ntmps17
      go_wp2_with (go_at_call 15; refine (refValid_is r true _ HV).mono ?_; rintro e w' ⟨rfl, rfl⟩)
      go_ret
      exact ⟨_, rfl, HFIN.out [.int .u8 (192 + r / 64), .int .u8 (128 + r % 64)] 2 rfl (by omega), (Below.refl _ _).alloc (Nat.le_refl _) _⟩
    by_cases c3 : r ≤ 65535
    · have he : encB r = [224 + r / 4096, 128 + r / 64 % 64, 128 + r % 64] := by unfold encB; rw [if_neg c1, if_neg c2, if_pos c3]
      rw [he]
      have HE := Lib.hid he; clear he
      have c1' : ¬ r < 128 := by omega
      have c2' : ¬ r < 2048 := by omega
      have c3' : r < 65536 := by omega
      go_enter Try.func17, Try.ntmps17
      go_wp2_with (go_at_call 15; refine (refValid_is r true _ HV).mono ?_; rintro e w' ⟨rfl, rfl⟩)
      go_ret
      exact ⟨_, rfl, HFIN.out [.int .u8 (224 + r / 4096), .int .u8 (128 + r / 64 % 64), .int .u8 (128 + r % 64)] 3 rfl (by omega), (Below.refl _ _).alloc (Nat.le_refl _) _⟩
    · have he : encB r = [240 + r / 262144, 128 + r / 4096 % 64, 128 + r / 64 % 64, 128 + r % 64] := by unfold encB; rw [if_neg c1, if_neg c2, if_neg c3]
      rw [he]
      have HE := Lib.hid he; clear he
      have c1' : ¬ r < 128 := by omega
      have c2' : ¬ r < 2048 := by omega
      have c3' : ¬ r < 65536 := by omega
      go_enter Try.func17, Try.ntmps17
      go_wp2_with (go_at_call 15; refine (refValid_is r true _ HV).mono ?_; rintro e w' ⟨rfl, rfl⟩)
      go_ret
      exact ⟨_, rfl, HFIN.out [.int .u8 (240 + r / 262144), .int .u8 (128 + r / 4096 % 64), .int .u8 (128 + r / 64 % 64), .int .u8 (128 + r % 64)] 4 rfl (by omega), (Below.refl _ _).alloc (Nat.le_refl _) _⟩
  · have hs : scal r = 65533 := by unfold scal; rw [if_neg hv]
    have hv' : validB r = false := by simpa using hv
    have he : encB 65533 = [239, 191, 189] := by decide
    rw [hs, he]
    have HV : Hid (validB r = false) := hv'
    clear hv hv' hs he
    go_enter Try.func17, Try.ntmps17
    go_wp2_with (go_at_call 15; refine (refValid_is r false _ HV).mono ?_; rintro e w' ⟨rfl, rfl⟩)
    go_ret
    exact ⟨_, rfl, HFIN.out [.int .u8 239, .int .u8 191, .int .u8 189] 3 rfl (by omega), (Below.refl _ _).alloc (Nat.le_refl _) _⟩

theorem take_eq_next {xs ys : List Int} {k : Nat} (h : xs.take k = ys.take k) (hx : k < xs.length) (hy : k < ys.length) (he : xs.getD k 0 = ys.getD k 0) : xs.take (k + 1) = ys.take (k + 1) := by
  rw [take_snoc xs k hx, take_snoc ys k hy, h, he]

theorem same_any (a1 : Option Addr) (n1 c1 : Nat) (xs : List Int) (a2 : Option Addr) (n2 c2 : Nat) (ys : List Int) (b : Bool) (w : World) (h1 : Rd .u8 w a1 n1 c1 xs) (h2 : Rd .u8 w a2 n2 c2 ys) (hb : Hid (decide (xs = ys) = b)) :
    Calls Try.prog 34 #[.slice a1 n1 c1, .slice a2 n2 c2] w fun e w' => e = .returned (.bool b) ∧ Below w.heap.size w w' := by
  have hsm1 := h1.small
  have hsm2 := h2.small
  have hl1 := Lib.hid h1.1
  have hl2 := Lib.hid h2.1
  by_cases hne : n1 = n2
  · subst hne
    have heq : ((n1 : Int) != (n1 : Int)) = false := by simp
    by_cases h0 : n1 = 0
    · subst h0
      have e1 : xs = [] := List.eq_nil_of_length_eq_zero hl1.out
      have e2 : ys = [] := List.eq_nil_of_length_eq_zero hl2.out
      have hbt : b = true := by rw [← hb.out, e1, e2]; rfl
      subst hbt
      clear e1 e2
      go_enter Try.func34, Try.ntmps34
      go_wp2_with fail
      go_loopw [5] (fun i wr => i = .int .i64 0 ∧ wr = w) (fun _ _ => 0)
      case atStart => exact ⟨rfl, rfl⟩
      case round =>
        obtain ⟨rfl, rfl⟩ := hrel
        go_wp2
        go_ret
        exact ⟨rfl, Below.refl _ _⟩
    · obtain ⟨p1, o1, rfl, hc1⟩ := h1.2.2.2.2.2 (by omega)
      obtain ⟨p2, o2, rfl, hc2⟩ := h2.2.2.2.2.2 (by omega)
      have hp1 := block_lt_of_cell (hc1 0 (by omega))
      have hp2 := block_lt_of_cell (hc2 0 (by omega))
      have HC1 := Lib.hid hc1; clear hc1
      have HC2 := Lib.hid hc2; clear hc2
      clear h1 h2
      go_enter Try.func34, Try.ntmps34
      go_wp2_with fail
      go_loopw [5] (fun i wr => ∃ k : Nat, k ≤ n1 ∧ i = .int .i64 k ∧ Hid (xs.take k = ys.take k) ∧ Below w.heap.size w wr) (fun i _ => n1 - (intOf i).toNat)
      case atStart => exact ⟨0, by omega, rfl, rfl, Below.refl _ _⟩
      case round =>
        obtain ⟨k, hk, rfl, HT, hbl⟩ := hrel
        by_cases hlt : k < n1
        · have e1 := (hbl.cell (p := ⟨p1, o1 + k, none⟩) hp1).trans (HC1.out k hlt)
          have e2 := (hbl.cell (p := ⟨p2, o2 + k, none⟩) hp2).trans (HC2.out k hlt)
          obtain ⟨x, hx⟩ : ∃ x, xs.getD k 0 = x := ⟨_, rfl⟩
          obtain ⟨y, hy⟩ : ∃ y, ys.getD k 0 = y := ⟨_, rfl⟩
          rw [hx] at e1
          rw [hy] at e2
          have HX := Lib.hid hx; clear hx
          have HY := Lib.hid hy; clear hy
          by_cases hxy : x = y
          · subst hxy
            have hxx : (x != x) = false := by simp
            have HT2 := Lib.hid (take_eq_next HT.out (by have := hl1.out; omega) (by have := hl2.out; omega) (by rw [HX.out, HY.out]))
            go_wp2_with fail
            go_quiet (fail)
            go_wp2_with fail
            go_roundw
            case rel => exact ⟨k + 1, by omega, by go_num, HT2, bdrewN hbl _⟩
            case measure => simp [intOf]; omega
          · have hxx : (x != y) = true := by simpa using hxy
            have hbf : b = false := by
              rw [← hb.out]
              refine decide_eq_false fun he => hxy ?_
              rw [← HX.out, ← HY.out, he]
            subst hbf
            clear hxy
            go_wp2_with fail
            go_quiet (fail)
            go_wp2
            go_ret
            exact ⟨rfl, bdrewN hbl _⟩
        · obtain rfl : k = n1 := by omega
          have hbt : b = true := by
            rw [← hb.out]
            refine decide_eq_true ?_
            have h := HT.out
            rwa [List.take_of_length_le (by have := hl1.out; omega), List.take_of_length_le (by have := hl2.out; omega)] at h
          subst hbt
          go_wp2
          go_ret
          exact ⟨rfl, hbl⟩
  · have hneq : ((n1 : Int) != (n2 : Int)) = true := by simp; omega
    have hbf : b = false := by
      rw [← hb.out]
      refine decide_eq_false fun he => hne ?_
      rw [← hl1.out, ← hl2.out, he]
    subst hbf
    clear h1 h2
    go_enter Try.func34, Try.ntmps34
    go_wp2
    go_ret
    exact ⟨rfl, Below.refl _ _⟩

def vBd (k : Nat) (v : Int) : Prop := (k = 1 → -256 ≤ v ∧ v ≤ 256) ∧ (k = 2 → -16448 ≤ v ∧ v ≤ 16448) ∧ (k = 3 → -1052736 ≤ v ∧ v ≤ 1052736) ∧ -67375168 ≤ v ∧ v ≤ 67375168
theorem vBd_next {k : Nat} {v x : Int} (h : vBd k v) (h1 : 1 ≤ k) (h3 : k ≤ 3) (hx : 128 ≤ x ∧ x ≤ 191) : vBd (k + 1) (v * 64 + x - 128) := by
  unfold vBd at *
  omega
theorem vBd_in {k : Nat} {v : Int} (h : vBd k v) (h1 : 1 ≤ k) (h3 : k ≤ 3) : -1052736 ≤ v ∧ v ≤ 1052736 := by
  unfold vBd at *
  omega
theorem val_done {xs : List Int} {k n : Nat} {v V : Int} (h : valGo (xs.drop k) (n - k) v = V) (hk : k = n) : v = V := by
  subst hk
  rw [Nat.sub_self, valGo_zero] at h
  exact h
theorem val_bad {xs : List Int} {k n : Nat} {v V : Int} (h : valGo (xs.drop k) (n - k) v = V) (hk : k < n) (hl : k < xs.length) (hx : xs.getD k 0 < 128 ∨ 191 < xs.getD k 0) : V = -1 := by
  obtain ⟨d, hd⟩ : ∃ d, n - k = d + 1 := ⟨n - k - 1, by omega⟩
  rw [drop_getD xs k hl, hd] at h
  simp only [valGo] at h
  rw [if_pos hx] at h
  exact h.symm
theorem val_on {xs : List Int} {k n : Nat} {v V : Int} (h : valGo (xs.drop k) (n - k) v = V) (hk : k < n) (hl : k < xs.length) (hx : ¬ (xs.getD k 0 < 128 ∨ 191 < xs.getD k 0)) :
    valGo (xs.drop (k + 1)) (n - (k + 1)) (v * 64 + xs.getD k 0 - 128) = V := by
  obtain ⟨d, hd⟩ : ∃ d, n - k = d + 1 := ⟨n - k - 1, by omega⟩
  rw [drop_getD xs k hl, hd] at h
  simp only [valGo] at h
  rw [if_neg hx] at h
  rw [show n - (k + 1) = d from by omega]
  exact h
def fitV (v : Int) : Int := if v < 0 ∨ 1114111 < v then -1 else v

set_option maxHeartbeats 1000000 in
theorem value_1 (b off len cap : Nat) (xs : List Int) (V : Int) (w : World) (hn : 1 ≤ len) (hlen2 : len ≤ 9223372036854775807)
    (hxl : Hid (xs.length = len)) (hc : ∀ i, i < len → w.cell? ⟨b, off + i, none⟩ = some (.int .u8 (xs.getD i 0))) (hu : ∀ i, 0 ≤ xs.getD i 0 ∧ xs.getD i 0 ≤ 255)
    (HV : Hid (valueV xs 1 = V)) :
    Calls Try.prog 33 #[.slice (some ⟨b, off, none⟩) len cap, .int .i64 1] w fun e w' => e = .returned (.int .i32 V) ∧ Below w.heap.size w w' := by
  have hc0 := hc 0 (by omega)
  rw [Nat.add_zero] at hc0
  have h0 := (hu 0).1
  have h1 := (hu 0).2
  have HC := Lib.hid hc; clear hc
  have HU := Lib.hid hu; clear hu
  obtain ⟨c, hx⟩ : ∃ c, xs.getD 0 0 = c := ⟨_, rfl⟩
  have HS : Hid (fitV (valGo (xs.drop 1) (1 - 1) (c)) = V) := by
    have h := HV.out
    unfold valueV at h
    rw [hx] at h
    exact h
  rw [hx] at hc0 h0 h1
  have Hx := Lib.hid hx; clear hx
  obtain ⟨G, hG⟩ : ∃ G, valGo (xs.drop 1) (1 - 1) (c) = G := ⟨_, rfl⟩
  rw [hG] at HS
  have HG0 : Hid (valGo (xs.drop 1) (1 - 1) (c) = G) := hG
  clear hG
  have HB : Hid (vBd 1 (c)) := by show vBd _ _; unfold vBd; omega
  go_enter Try.func33, Try.ntmps33
  go_wp2_with fail
  go_loopw [6, 7] (fun v i wr => ∃ (k : Nat) (v' : Int), i = .int .i64 k ∧ v = .int .i64 v' ∧ 1 ≤ k ∧ k ≤ 1 ∧ Hid (vBd k v') ∧ Hid (valGo (xs.drop k) (1 - k) v' = G) ∧ Below w.heap.size w wr ∧ Hid (∀ i, i < len → wr.cell? ⟨b, off + i, none⟩ = some (.int .u8 (xs.getD i 0))))
    (fun _ i _ => 1 - (intOf i).toNat)
  case atStart => exact ⟨1, _, rfl, rfl, by omega, by omega, HB, HG0, Below.refl _ _, HC⟩
  case round =>
    obtain ⟨k, v, rfl, rfl, hk1, hkn, HR, HG, hbl, HCR⟩ := hrel
    by_cases e1 : k = 1
    · subst e1
      have hv := val_done HG.out rfl
      have hfit := HS.out
      rw [← hv] at hfit
      have hvb : -67375168 ≤ v ∧ v ≤ 67375168 := HR.out.2.2.2
      by_cases q1 : v < 0
      · have hV : V = -1 := by rw [← hfit]; unfold fitV; rw [if_pos (.inl q1)]
        subst hV
        clear hfit
        go_wp2
        go_ret
        exact ⟨rfl, hbl⟩
      by_cases q2 : 1114111 < v
      · have hV : V = -1 := by rw [← hfit]; unfold fitV; rw [if_pos (.inr q2)]
        subst hV
        clear hfit
        go_wp2
        go_ret
        exact ⟨rfl, hbl⟩
      · have hV : V = v := by rw [← hfit]; unfold fitV; rw [if_neg (by omega)]
        subst hV
        clear hfit hv
        go_wp2
        go_ret
        exact ⟨rfl, hbl⟩
    exfalso; omega

set_option maxHeartbeats 1000000 in
theorem value_2 (b off len cap : Nat) (xs : List Int) (V : Int) (w : World) (hn : 2 ≤ len) (hlen2 : len ≤ 9223372036854775807)
    (hxl : Hid (xs.length = len)) (hc : ∀ i, i < len → w.cell? ⟨b, off + i, none⟩ = some (.int .u8 (xs.getD i 0))) (hu : ∀ i, 0 ≤ xs.getD i 0 ∧ xs.getD i 0 ≤ 255)
    (HV : Hid (valueV xs 2 = V)) :
    Calls Try.prog 33 #[.slice (some ⟨b, off, none⟩) len cap, .int .i64 2] w fun e w' => e = .returned (.int .i32 V) ∧ Below w.heap.size w w' := by
  have hc0 := hc 0 (by omega)
  rw [Nat.add_zero] at hc0
  have h0 := (hu 0).1
  have h1 := (hu 0).2
  have HC := Lib.hid hc; clear hc
  have HU := Lib.hid hu; clear hu
  obtain ⟨c, hx⟩ : ∃ c, xs.getD 0 0 = c := ⟨_, rfl⟩
  have HS : Hid (fitV (valGo (xs.drop 1) (2 - 1) (c - 192)) = V) := by
    have h := HV.out
    unfold valueV at h
    rw [hx] at h
    exact h
  rw [hx] at hc0 h0 h1
  have Hx := Lib.hid hx; clear hx
  obtain ⟨G, hG⟩ : ∃ G, valGo (xs.drop 1) (2 - 1) (c - 192) = G := ⟨_, rfl⟩
  rw [hG] at HS
  have HG0 : Hid (valGo (xs.drop 1) (2 - 1) (c - 192) = G) := hG
  clear hG
  have HB : Hid (vBd 1 (c - 192)) := by show vBd _ _; unfold vBd; omega
  go_enter Try.func33, Try.ntmps33
  go_wp2_with fail
  go_loopw [6, 7] (fun v i wr => ∃ (k : Nat) (v' : Int), i = .int .i64 k ∧ v = .int .i64 v' ∧ 1 ≤ k ∧ k ≤ 2 ∧ Hid (vBd k v') ∧ Hid (valGo (xs.drop k) (2 - k) v' = G) ∧ Below w.heap.size w wr ∧ Hid (∀ i, i < len → wr.cell? ⟨b, off + i, none⟩ = some (.int .u8 (xs.getD i 0))))
    (fun _ i _ => 2 - (intOf i).toNat)
  case atStart => exact ⟨1, _, rfl, rfl, by omega, by omega, HB, HG0, Below.refl _ _, HC⟩
  case round =>
    obtain ⟨k, v, rfl, rfl, hk1, hkn, HR, HG, hbl, HCR⟩ := hrel
    by_cases e1 : k = 2
    · subst e1
      have hv := val_done HG.out rfl
      have hfit := HS.out
      rw [← hv] at hfit
      have hvb : -67375168 ≤ v ∧ v ≤ 67375168 := HR.out.2.2.2
      by_cases q1 : v < 0
      · have hV : V = -1 := by rw [← hfit]; unfold fitV; rw [if_pos (.inl q1)]
        subst hV
        clear hfit
        go_wp2
        go_ret
        exact ⟨rfl, hbl⟩
      by_cases q2 : 1114111 < v
      · have hV : V = -1 := by rw [← hfit]; unfold fitV; rw [if_pos (.inr q2)]
        subst hV
        clear hfit
        go_wp2
        go_ret
        exact ⟨rfl, hbl⟩
      · have hV : V = v := by rw [← hfit]; unfold fitV; rw [if_neg (by omega)]
        subst hV
        clear hfit hv
        go_wp2
        go_ret
        exact ⟨rfl, hbl⟩
    have hkn' : k < 2 := by omega
    have hkl' : k < len := by omega
    have hcx := HCR.out k hkl'
    have hx0 := (HU.out k).1
    have hx1 := (HU.out k).2
    have hkxs : k < xs.length := by have := hxl.out; omega
    obtain ⟨x, hx⟩ : ∃ x, xs.getD k 0 = x := ⟨_, rfl⟩
    have hr := vBd_in HR.out hk1 (by omega)
    by_cases e3 : x < 128 ∨ 191 < x
    · have hG := val_bad HG.out hkn' hkxs (by rw [hx]; exact e3)
      have hV : V = -1 := by rw [← HS.out, hG]; decide
      subst hV
      rw [hx] at hcx hx0 hx1
      have HX := Lib.hid hx; clear hx hkxs hG
      by_cases e4 : x < 128
      · clear e3
        go_wp2
        go_ret
        exact ⟨rfl, hbl⟩
      · have e5 : 191 < x := by omega
        clear e3
        go_wp2
        go_ret
        exact ⟨rfl, hbl⟩
    · have HG2 := Lib.hid (val_on HG.out hkn' hkxs (by rw [hx]; exact e3))
      rw [hx] at hcx hx0 hx1 HG2
      have HR2 := Lib.hid (vBd_next (x := x) HR.out hk1 (by omega) (by omega))
      have HX := Lib.hid hx; clear hx hkxs
      have e4 : ¬ x < 128 := by omega
      have e5 : ¬ 191 < x := by omega
      clear e3
      go_wp2
      go_roundw
      case rel => exact ⟨k + 1, _, by go_num, rfl, by omega, by omega, HR2, HG2, hbl, HCR⟩
      case measure => simp [intOf]; omega

set_option maxHeartbeats 1000000 in
theorem value_3 (b off len cap : Nat) (xs : List Int) (V : Int) (w : World) (hn : 3 ≤ len) (hlen2 : len ≤ 9223372036854775807)
    (hxl : Hid (xs.length = len)) (hc : ∀ i, i < len → w.cell? ⟨b, off + i, none⟩ = some (.int .u8 (xs.getD i 0))) (hu : ∀ i, 0 ≤ xs.getD i 0 ∧ xs.getD i 0 ≤ 255)
    (HV : Hid (valueV xs 3 = V)) :
    Calls Try.prog 33 #[.slice (some ⟨b, off, none⟩) len cap, .int .i64 3] w fun e w' => e = .returned (.int .i32 V) ∧ Below w.heap.size w w' := by
  have hc0 := hc 0 (by omega)
  rw [Nat.add_zero] at hc0
  have h0 := (hu 0).1
  have h1 := (hu 0).2
  have HC := Lib.hid hc; clear hc
  have HU := Lib.hid hu; clear hu
  obtain ⟨c, hx⟩ : ∃ c, xs.getD 0 0 = c := ⟨_, rfl⟩
  have HS : Hid (fitV (valGo (xs.drop 1) (3 - 1) (c - 224)) = V) := by
    have h := HV.out
    unfold valueV at h
    rw [hx] at h
    exact h
  rw [hx] at hc0 h0 h1
  have Hx := Lib.hid hx; clear hx
  obtain ⟨G, hG⟩ : ∃ G, valGo (xs.drop 1) (3 - 1) (c - 224) = G := ⟨_, rfl⟩
  rw [hG] at HS
  have HG0 : Hid (valGo (xs.drop 1) (3 - 1) (c - 224) = G) := hG
  clear hG
  have HB : Hid (vBd 1 (c - 224)) := by show vBd _ _; unfold vBd; omega
  go_enter Try.func33, Try.ntmps33
  go_wp2_with fail
  go_loopw [6, 7] (fun v i wr => ∃ (k : Nat) (v' : Int), i = .int .i64 k ∧ v = .int .i64 v' ∧ 1 ≤ k ∧ k ≤ 3 ∧ Hid (vBd k v') ∧ Hid (valGo (xs.drop k) (3 - k) v' = G) ∧ Below w.heap.size w wr ∧ Hid (∀ i, i < len → wr.cell? ⟨b, off + i, none⟩ = some (.int .u8 (xs.getD i 0))))
    (fun _ i _ => 3 - (intOf i).toNat)
  case atStart => exact ⟨1, _, rfl, rfl, by omega, by omega, HB, HG0, Below.refl _ _, HC⟩
  case round =>
    obtain ⟨k, v, rfl, rfl, hk1, hkn, HR, HG, hbl, HCR⟩ := hrel
    by_cases e1 : k = 3
    · subst e1
      have hv := val_done HG.out rfl
      have hfit := HS.out
      rw [← hv] at hfit
      have hvb : -67375168 ≤ v ∧ v ≤ 67375168 := HR.out.2.2.2
      by_cases q1 : v < 0
      · have hV : V = -1 := by rw [← hfit]; unfold fitV; rw [if_pos (.inl q1)]
        subst hV
        clear hfit
        go_wp2
        go_ret
        exact ⟨rfl, hbl⟩
      by_cases q2 : 1114111 < v
      · have hV : V = -1 := by rw [← hfit]; unfold fitV; rw [if_pos (.inr q2)]
        subst hV
        clear hfit
        go_wp2
        go_ret
        exact ⟨rfl, hbl⟩
      · have hV : V = v := by rw [← hfit]; unfold fitV; rw [if_neg (by omega)]
        subst hV
        clear hfit hv
        go_wp2
        go_ret
        exact ⟨rfl, hbl⟩
    have hkn' : k < 3 := by omega
    have hkl' : k < len := by omega
    have hcx := HCR.out k hkl'
    have hx0 := (HU.out k).1
    have hx1 := (HU.out k).2
    have hkxs : k < xs.length := by have := hxl.out; omega
    obtain ⟨x, hx⟩ : ∃ x, xs.getD k 0 = x := ⟨_, rfl⟩
    have hr := vBd_in HR.out hk1 (by omega)
    by_cases e3 : x < 128 ∨ 191 < x
    · have hG := val_bad HG.out hkn' hkxs (by rw [hx]; exact e3)
      have hV : V = -1 := by rw [← HS.out, hG]; decide
      subst hV
      rw [hx] at hcx hx0 hx1
      have HX := Lib.hid hx; clear hx hkxs hG
      by_cases e4 : x < 128
      · clear e3
        go_wp2
        go_ret
        exact ⟨rfl, hbl⟩
      · have e5 : 191 < x := by omega
        clear e3
        go_wp2
        go_ret
        exact ⟨rfl, hbl⟩
    · have HG2 := Lib.hid (val_on HG.out hkn' hkxs (by rw [hx]; exact e3))
      rw [hx] at hcx hx0 hx1 HG2
      have HR2 := Lib.hid (vBd_next (x := x) HR.out hk1 (by omega) (by omega))
      have HX := Lib.hid hx; clear hx hkxs
      have e4 : ¬ x < 128 := by omega
      have e5 : ¬ 191 < x := by omega
      clear e3
      go_wp2
      go_roundw
      case rel => exact ⟨k + 1, _, by go_num, rfl, by omega, by omega, HR2, HG2, hbl, HCR⟩
      case measure => simp [intOf]; omega

set_option maxHeartbeats 1000000 in
theorem value_4 (b off len cap : Nat) (xs : List Int) (V : Int) (w : World) (hn : 4 ≤ len) (hlen2 : len ≤ 9223372036854775807)
    (hxl : Hid (xs.length = len)) (hc : ∀ i, i < len → w.cell? ⟨b, off + i, none⟩ = some (.int .u8 (xs.getD i 0))) (hu : ∀ i, 0 ≤ xs.getD i 0 ∧ xs.getD i 0 ≤ 255)
    (HV : Hid (valueV xs 4 = V)) :
    Calls Try.prog 33 #[.slice (some ⟨b, off, none⟩) len cap, .int .i64 4] w fun e w' => e = .returned (.int .i32 V) ∧ Below w.heap.size w w' := by
  have hc0 := hc 0 (by omega)
  rw [Nat.add_zero] at hc0
  have h0 := (hu 0).1
  have h1 := (hu 0).2
  have HC := Lib.hid hc; clear hc
  have HU := Lib.hid hu; clear hu
  obtain ⟨c, hx⟩ : ∃ c, xs.getD 0 0 = c := ⟨_, rfl⟩
  have HS : Hid (fitV (valGo (xs.drop 1) (4 - 1) (c - 240)) = V) := by
    have h := HV.out
    unfold valueV at h
    rw [hx] at h
    exact h
  rw [hx] at hc0 h0 h1
  have Hx := Lib.hid hx; clear hx
  obtain ⟨G, hG⟩ : ∃ G, valGo (xs.drop 1) (4 - 1) (c - 240) = G := ⟨_, rfl⟩
  rw [hG] at HS
  have HG0 : Hid (valGo (xs.drop 1) (4 - 1) (c - 240) = G) := hG
  clear hG
  have HB : Hid (vBd 1 (c - 240)) := by show vBd _ _; unfold vBd; omega
  go_enter Try.func33, Try.ntmps33
  go_wp2_with fail
  go_loopw [6, 7] (fun v i wr => ∃ (k : Nat) (v' : Int), i = .int .i64 k ∧ v = .int .i64 v' ∧ 1 ≤ k ∧ k ≤ 4 ∧ Hid (vBd k v') ∧ Hid (valGo (xs.drop k) (4 - k) v' = G) ∧ Below w.heap.size w wr ∧ Hid (∀ i, i < len → wr.cell? ⟨b, off + i, none⟩ = some (.int .u8 (xs.getD i 0))))
    (fun _ i _ => 4 - (intOf i).toNat)
  case atStart => exact ⟨1, _, rfl, rfl, by omega, by omega, HB, HG0, Below.refl _ _, HC⟩
  case round =>
    obtain ⟨k, v, rfl, rfl, hk1, hkn, HR, HG, hbl, HCR⟩ := hrel
    by_cases e1 : k = 4
    · subst e1
      have hv := val_done HG.out rfl
      have hfit := HS.out
      rw [← hv] at hfit
      have hvb : -67375168 ≤ v ∧ v ≤ 67375168 := HR.out.2.2.2
      by_cases q1 : v < 0
      · have hV : V = -1 := by rw [← hfit]; unfold fitV; rw [if_pos (.inl q1)]
        subst hV
        clear hfit
        go_wp2
        go_ret
        exact ⟨rfl, hbl⟩
      by_cases q2 : 1114111 < v
      · have hV : V = -1 := by rw [← hfit]; unfold fitV; rw [if_pos (.inr q2)]
        subst hV
        clear hfit
        go_wp2
        go_ret
        exact ⟨rfl, hbl⟩
      · have hV : V = v := by rw [← hfit]; unfold fitV; rw [if_neg (by omega)]
        subst hV
        clear hfit hv
        go_wp2
        go_ret
        exact ⟨rfl, hbl⟩
    have hkn' : k < 4 := by omega
    have hkl' : k < len := by omega
    have hcx := HCR.out k hkl'
    have hx0 := (HU.out k).1
    have hx1 := (HU.out k).2
    have hkxs : k < xs.length := by have := hxl.out; omega
    obtain ⟨x, hx⟩ : ∃ x, xs.getD k 0 = x := ⟨_, rfl⟩
    have hr := vBd_in HR.out hk1 (by omega)
    by_cases e3 : x < 128 ∨ 191 < x
    · have hG := val_bad HG.out hkn' hkxs (by rw [hx]; exact e3)
      have hV : V = -1 := by rw [← HS.out, hG]; decide
      subst hV
      rw [hx] at hcx hx0 hx1
      have HX := Lib.hid hx; clear hx hkxs hG
      by_cases e4 : x < 128
      · clear e3
        go_wp2
        go_ret
        exact ⟨rfl, hbl⟩
      · have e5 : 191 < x := by omega
        clear e3
        go_wp2
        go_ret
        exact ⟨rfl, hbl⟩
    · have HG2 := Lib.hid (val_on HG.out hkn' hkxs (by rw [hx]; exact e3))
      rw [hx] at hcx hx0 hx1 HG2
      have HR2 := Lib.hid (vBd_next (x := x) HR.out hk1 (by omega) (by omega))
      have HX := Lib.hid hx; clear hx hkxs
      have e4 : ¬ x < 128 := by omega
      have e5 : ¬ 191 < x := by omega
      clear e3
      go_wp2
      go_roundw
      case rel => exact ⟨k + 1, _, by go_num, rfl, by omega, by omega, HR2, HG2, hbl, HCR⟩
      case measure => simp [intOf]; omega

theorem value_any (a : Option Addr) (len cap n : Nat) (xs : List Int) (V : Int) (w : World) (hr : Rd .u8 w a len cap xs) (h1 : 1 ≤ n) (h4 : n ≤ 4) (hn : n ≤ len) (HV : Hid (valueV xs n = V)) :
    Calls Try.prog 33 #[.slice a len cap, .int .i64 n] w fun e w' => e = .returned (.int .i32 V) ∧ Below w.heap.size w w' := by
  have hu := hr.u8
  have hsm := hr.small
  obtain ⟨r1, r2, r3, r4, r6, r5⟩ := hr
  obtain ⟨b, off, rfl, hc⟩ := r5 (by omega)
  have hcase : n = 1 ∨ n = 2 ∨ n = 3 ∨ n = 4 := by omega
  rcases hcase with rfl | rfl | rfl | rfl
  · exact value_1 b off len cap xs V w hn hsm r1 hc hu HV
  · exact value_2 b off len cap xs V w hn hsm r1 hc hu HV
  · exact value_3 b off len cap xs V w hn hsm r1 hc hu HV
  · exact value_4 b off len cap xs V w hn hsm r1 hc hu HV

end Go.Proofs.Ytcjngpgicegacaa.U
