/-
  The walk of TextLong.
-/
import Derived.Test.YtndlebopfojjeaaTAwake
namespace Go.Proofs.Ytndlebopfojjeaa.U
open Go.RowKit
set_option linter.unusedVariables false
set_option linter.unusedSimpArgs false
set_option maxRecDepth 100000

theorem zeros_rd (w : World) (n : Nat) (hn : n ≤ 1073741824) : Rd .i32 (w.alloc (.cells (madeCells #[.int .i32 0] n) 21)) (some ⟨w.heap.size, 0, none⟩) n n (List.replicate n 0) := by
  refine Rd_new .i32 w _ _ _ n ?_ (by simp) (by unfold maxLen; omega) (by intro x hx; rw [List.mem_replicate] at hx; rw [hx.2]; rfl)
  apply Array.toList_inj.1
  rw [toList_madeCells_one]
  simp

/-- the lines that it makes -/
def LL (e k : Nat) : List (List Int) := (List.range k).map fun i => List.replicate (i % e) 0
theorem LL_len (e k : Nat) : (LL e k).length = k := by simp [LL]
theorem LL_succ (e k : Nat) : LL e (k + 1) = LL e k ++ [List.replicate (k % e) 0] := by simp [LL, List.range_succ]
theorem LL_at {e k i : Nat} (h : i < k) : (LL e k)[i]? = some (List.replicate (i % e) 0) := by simp [LL, List.getElem?_range h]
theorem LL_take {e k i : Nat} (h : i ≤ k) : (LL e k).take i = LL e i := by
  unfold LL
  rw [← List.map_take, List.take_range, Nat.min_eq_left h]
theorem LL_sum (e k : Nat) : sizeN (lens (LL e (k + 1))) = sizeN (lens (LL e k)) + (k % e + 1) := by
  rw [LL_succ, lens_append, sizeN_append]; simp [lens, sizeN]
theorem LL_size {e : Nat} (he : 1 ≤ e) (k : Nat) : sizeN (lens (LL e k)) ≤ k * e := by
  induction k with
  | zero => simp [LL, lens, sizeN_nil]
  | succ k ih =>
    rw [LL_sum, Nat.succ_mul]
    have := Nat.mod_lt k (show 0 < e by omega)
    omega
theorem LL_ne {e k : Nat} (h : 1 ≤ k) : LL e k ≠ [] := by
  intro h2
  have := congrArg List.length h2
  rw [LL_len] at this
  simp at this
  omega
theorem LL_ok {e k : Nat} (he : 1 ≤ e) (he2 : e ≤ 20) (hk : 1 ≤ k) (hk2 : k ≤ 1000) : okL (LL e k) = true := by
  have h1 : (LL e k).any has10 = false := by
    rw [plain_iff]
    intro x hx hm
    unfold LL at hx
    rw [List.mem_map] at hx
    obtain ⟨i, _, rfl⟩ := hx
    rw [List.mem_replicate] at hm
    exact absurd hm.2 (by decide)
  have h2 := joinL_len (LL_ne (e := e) hk)
  have h3 := LL_size he k
  have h4 : k * e ≤ 1000 * 20 := Nat.mul_le_mul hk2 he2
  unfold okL
  rw [h1, normL_of (LL_ne hk), Bool.and_eq_true, decide_eq_true_eq]
  exact ⟨rfl, by omega⟩
theorem LL_off {e k i : Nat} (h : i < k) : offR (LL e k) i 0 = (((sizeN (lens (LL e i)) : Nat) : Int), 0) := by
  unfold offR
  have hh : hasP (LL e k) (i : Int) 0 = true := hasP_iff.2 ⟨i, 0, _, rfl, rfl, LL_at h, Nat.zero_le _⟩
  rw [if_pos hh, Int.toNat_natCast]
  unfold offN
  rw [← lens_take, LL_take (by omega)]
  rfl

set_option maxHeartbeats 4000000 in
theorem textLong_walk (n e : Int) (w : World) (hn : (Lit.int .i64 n).wf = true) (he : (Lit.int .i64 e).wf = true) :
    Calls Try.prog 8 #[.int .i64 n, .int .i64 e] w fun e w' => e = .returned (.bool true) ∧ Below w.heap.size w w' := by
  obtain ⟨n1, n2⟩ := wf_i64_in hn
  obtain ⟨e1, e2⟩ := wf_i64_in he
  clear hn he
  obtain ⟨B, hB⟩ : ∃ B, w.heap.size = B := ⟨_, rfl⟩
  rw [hB]
  have HBE := Lib.hid hB
  clear hB
  go_enter Try.func8, Try.ntmps8
  go_upto_region 1 with fail
  go_cut [0] (fun s0 wx => ∃ m : Nat, s0 = .int .i64 m ∧ 1 ≤ m ∧ m ≤ 1000 ∧ wx = w)
  case first =>
    by_cases h1 : n < 1
    · go_wp2_with fail
      all_goals
        go_meet
        exact ⟨1, by first | rfl | (congr 1; omega) | (congr 1; simp only [Int.min_def, Int.max_def]; split <;> split <;> omega), by omega, by omega, rfl⟩
    · by_cases h2 : n ≤ 1000
      · go_wp2_with fail
        all_goals
          go_meet
          exact ⟨n.toNat, by first | rfl | (congr 1; omega) | (congr 1; simp only [Int.min_def, Int.max_def]; split <;> split <;> omega), by omega, by omega, rfl⟩
      · go_wp2_with fail
        all_goals
          go_meet
          exact ⟨1000, by first | rfl | (congr 1; omega) | (congr 1; simp only [Int.min_def, Int.max_def]; split <;> split <;> omega), by omega, by omega, rfl⟩
  case rest =>
  obtain ⟨m, rfl, hm1, hm2, rfl⟩ := hcut
  go_upto_region 2 with fail
  go_cut [1] (fun s1 wx => ∃ d : Nat, s1 = .int .i64 d ∧ 1 ≤ d ∧ d ≤ 20 ∧ wx = wc)
  case first =>
    by_cases h1 : e < 1
    · go_wp2_with fail
      all_goals
        go_meet
        exact ⟨1, by first | rfl | (congr 1; omega) | (congr 1; simp only [Int.min_def, Int.max_def]; split <;> split <;> omega), by omega, by omega, rfl⟩
    · by_cases h2 : e ≤ 20
      · go_wp2_with fail
        all_goals
          go_meet
          exact ⟨e.toNat, by first | rfl | (congr 1; omega) | (congr 1; simp only [Int.min_def, Int.max_def]; split <;> split <;> omega), by omega, by omega, rfl⟩
      · go_wp2_with fail
        all_goals
          go_meet
          exact ⟨20, by first | rfl | (congr 1; omega) | (congr 1; simp only [Int.min_def, Int.max_def]; split <;> split <;> omega), by omega, by omega, rfl⟩
  case rest =>
  obtain ⟨d, rfl, hd1, hd2, rfl⟩ := hcut
  clear n1 n2 e1 e2
  go_wp2_with fail
  go_loopw [5, 6] (fun v5 v6 wr => ∃ (k : Nat) (a : Option Addr) (c : Nat), v6 = .int .i64 k ∧ v5 = .slice a k c ∧ k ≤ m ∧ Hid (∃ F, OwnL B F wr a k c (LL d k) ∧ (∀ j, F j → j < wr.heap.size) ∧ (∀ j, F j → ∀ g, a = some ⟨g, 0, none⟩ → j ≠ g) ∧ Below B wc wr)) (fun _ v6 _ => m - (intOf v6).toNat)
  case atStart => exact ⟨0, none, 0, rfl, rfl, Nat.zero_le _, fun _ => False, ⟨[], World.ownsRow_nil _ _ _ _, RowsAt.nil _ _⟩, fun _ h => h.elim, fun _ h => h.elim, Below.refl _ _⟩
  case round =>
  obtain ⟨k, a, c, rfl, rfl, hk, hst⟩ := hrel
  by_cases hlt : k < m
  · obtain ⟨F, ho, hF1, hF2, hb⟩ := hst.out
    have hBr : B ≤ wr.heap.size := by have := hb.size; have := HBE.out; omega
    obtain ⟨r, hr⟩ : ∃ r, k % d = r := ⟨_, rfl⟩
    have hr2 : r < 20 := by have := Nat.mod_lt k (show 0 < d by omega); omega
    have q1 : Int.tmod (k : Int) (d : Int) = (r : Int) := by rw [← hr]; rfl
    have q2 : (k : Int) % (d : Int) = (r : Int) := by rw [← hr]; rfl
    have hd0 : ¬ ((d : Int) = 0) := by omega
    have hmk := makeI wr r (by omega)
    have hz := zeros_rd wr r (by omega)
    obtain ⟨W1, hW1⟩ : ∃ W1, wr.alloc (.cells (madeCells #[.int .i32 0] r) 21) = W1 := ⟨_, rfl⟩
    have hb1 : Below wr.heap.size wr W1 := by rw [← hW1]; exact (Below.refl _ _).alloc (Nat.le_refl _) _
    have hs1 : W1.heap.size = wr.heap.size + 1 := by rw [← hW1]; simp
    rw [hW1] at hmk hz
    have hown : OwnL B (fun j => F j ∨ j = wr.heap.size) W1 a k c (LL d k) := by
      obtain ⟨vs, v1, v2⟩ := ho
      exact ⟨vs, own_fr v1 (Fr.of_below (fun _ => False) hb1) (fun _ _ h => h), (v2.below hb1).mono (fun j hj => .inl hj)⟩
    have hag : ∀ g, a = some ⟨g, 0, none⟩ → g < wr.heap.size := by
      intro g e
      obtain ⟨vs, v1, v2⟩ := ho
      subst e
      exact (v1.lt g rfl).2
    obtain ⟨a', c', w2, hrun, ho2, hb2, hg2⟩ := app_one W1 B (fun j => F j ∨ j = wr.heap.size) a k c (LL d k) hown (by omega) (fun j hj g e => by
      rcases hj with h | h
      · exact hF2 j h g e
      · have := hag g e; omega) (some ⟨wr.heap.size, 0, none⟩) r r (List.replicate r 0) hz (fun _ ad e => by cases e; exact .inr rfl) (by omega)
    have HRUN := Lib.hid hrun
    have HN : Hid (∃ F, OwnL B F w2 a' (k + 1) c' (LL d (k + 1)) ∧ (∀ j, F j → j < w2.heap.size) ∧ (∀ j, F j → ∀ g, a' = some ⟨g, 0, none⟩ → j ≠ g) ∧ Below B wc w2) := by
      have hs2 := hb2.size
      refine ⟨_, by rw [LL_succ, hr]; exact ho2, fun j hj => ?_, fun j hj g e => ?_, (hb.trans (hb1.mono hBr)).trans hb2⟩
      · rcases hj with h | h
        · have := hF1 j h; omega
        · omega
      · rcases hg2 g e with ⟨g', e1, e2⟩ | h
        · subst e2
          rcases hj with h | h
          · exact hF2 j h _ e1
          · have := hag _ e1; omega
        · rcases hj with h | h
          · have := hF1 j h; omega
          · omega
    clear hst ho hF1 hF2 hb hz hb1 hs1 hown hag hrun ho2 hb2 hg2 hr hW1
    go_wp2_with (at_builtin; go_must (with_reducible refine Lib.wpList_append_run _ rfl (.tmp 23) (.tmp 28) _ _ rfl _ _ rfl rfl _ _ (HRUN.out _) ?_))
    go_roundw
    case rel => exact ⟨k + 1, a', c', by go_num, rfl, by omega, HN⟩
    case measure => simp [intOf]; omega
  · obtain rfl : k = m := by omega
    obtain ⟨F, ho, hF1, hF2, hb⟩ := hst.out
    have hBr : B ≤ wr.heap.size := by have := hb.size; have := HBE.out; omega
    have HNEW := Lib.hid (new_some_ok (fun _ => True) a k c (LL d k) wr (ho.rdl (fun _ _ => trivial) (fun _ _ => trivial)) (by omega) (LL_ok hd1 hd2 hm1 hm2))
    have HBr : Hid (Below B wc wr ∧ B ≤ wr.heap.size) := ⟨hb, hBr⟩
    clear hst ho hF1 hF2 hb hBr
    go_wp2_with fail
    refine HNEW.out.mono ?_
    rintro e w1 ⟨bt, rfl, T1, hb1⟩
    have HT : Hid (∀ W, Below w1.heap.size w1 W → TX (fun j => wr.heap.size ≤ j) W bt (LL d k) 0) := fun W hW => T1.below hW
    have HB1 : Hid (Below B wc w1 ∧ B ≤ w1.heap.size) := ⟨HBr.out.1.trans (hb1.mono HBr.out.2), by have := hb1.size; have := HBr.out.2; omega⟩
    have hsz : sizeN (lens (LL d k)) ≤ 20000 := by
      have h3 := LL_size hd1 k
      have h4 : k * d ≤ 1000 * 20 := Nat.mul_le_mul hm2 hd2
      omega
    have HSZ : Hid (∀ i, i ≤ k → sizeN (lens (LL d i)) ≤ 20000) := by
      intro i hi
      have := size_take_le (LL d k) i
      rw [LL_take hi] at this
      omega
    have HR : Hid ((joinL (LL d k)).length + 1 = sizeN (lens (LL d k))) := joinL_len (LL_ne hm1)
    clear HNEW HBr T1 hb1
    go_wp2_with fail
    go_loopw [8, 9] (fun v8 v9 wx => ∃ (i s : Nat), v9 = .int .i64 i ∧ v8 = .int .i64 s ∧ i ≤ k ∧ s ≤ 20000 ∧ Hid (s = sizeN (lens (LL d i))) ∧ Hid (Below w1.heap.size w1 wx)) (fun _ v9 _ => k - (intOf v9).toNat)
    case atStart => exact ⟨0, 0, rfl, rfl, Nat.zero_le _, by omega, rfl, Below.refl _ _⟩
    case round =>
      obtain ⟨i, s, rfl, rfl, hi, hs, hse, hbx⟩ := hrel
      by_cases hil : i < k
      · have HO := Lib.hid (offset_any _ bt 0 (LL d k) i 0 wr (HT.out wr hbx.out) (by unfold i64b; omega) (by unfold i64b; omega))
        rw [LL_off hil, ← hse.out] at HO
        obtain ⟨r, hr⟩ : ∃ r, i % d = r := ⟨_, rfl⟩
        have hr2 : r < 20 := by have := Nat.mod_lt i (show 0 < d by omega); omega
        have q1 : Int.tmod (i : Int) (d : Int) = (r : Int) := by rw [← hr]; rfl
        have q2 : (i : Int) % (d : Int) = (r : Int) := by rw [← hr]; rfl
        have hd0 : ¬ ((d : Int) = 0) := by omega
        have heq : ((s : Int) != (s : Int)) = false := by simp
        have HN : Hid (s + (r + 1) = sizeN (lens (LL d (i + 1)))) := by
          show _ = _
          rw [LL_sum, hr, ← hse.out]
        have hs2 : s + (r + 1) ≤ 20000 := by have := HSZ.out (i + 1) (by omega); have := HN.out; omega
        clear hr hse
        go_wp2_with fail
        refine HO.out.mono ?_
        rintro e w2 ⟨rfl, hb2⟩
        have HBX : Hid (Below w1.heap.size w1 w2) := hbx.out.trans (hb2.mono hbx.out.size)
        clear hb2 HO
        go_wp2_with fail
        go_roundw
        case rel => exact ⟨i + 1, s + (r + 1), by go_num, by go_num, by omega, hs2, HN, HBX⟩
        case measure => simp [intOf]; omega
      · obtain rfl : i = k := by omega
        have HRT := Lib.hid (runesT_any _ bt 0 (LL d i) wr (HT.out wr hbx.out))
        obtain ⟨R, hR⟩ : ∃ R, (joinL (LL d i)).length = R := ⟨_, rfl⟩
        have hRs : R + 1 = s := by have := HR.out; have := hse.out; omega
        rw [hR] at HRT
        have heq : ((R : Int) == (s : Int) - 1) = true := by simp; omega
        have HBX : Hid (Below B wc wr ∧ B ≤ wr.heap.size) := ⟨HB1.out.1.trans (hbx.out.mono HB1.out.2), by have := hbx.out.size; have := HB1.out.2; omega⟩
        clear hR hse hbx hRs HR HT HSZ HB1 hsz
        go_wp2_with (first
          | (go_at_call 23; refine HRT.out.mono ?_; rintro e w' ⟨rfl, rfl⟩)
          | (go_at_call 14; refine (awake_any _).mono ?_; rintro e w9 ⟨rfl, hb9⟩))
        go_ret
        exact ⟨rfl, HBX.out.1.trans (hb9.mono HBX.out.2)⟩
end Go.Proofs.Ytndlebopfojjeaa.U
