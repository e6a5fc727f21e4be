/-
  The contracts of the document's Columns, Col and At.
-/
import Derived.Test.YthceooehndiglaaDoorCRefW
import Derived.Test.YthceooehndiglaaDoorCLaws2
namespace Go.Proofs.YthceooehndiglaaDoor.U
open Go.RowKit
set_option linter.unusedVariables false
set_option linter.unusedSimpArgs false

theorem endCol_at {us : List Un} {n : Nat} (hn : us.length = n) (h : 0 < n) : endCol us = (us.getD (n - 1) default).col + (us.getD (n - 1) default).wd := by
  rcases snoc_cases us with rfl | ⟨p, u, rfl⟩
  · simp at hn; omega
  · rw [endCol_snoc]
    have e : n - 1 = p.length := by simp at hn; omega
    rw [e, List.getD_eq_getElem?_getD]
    simp

set_option maxRecDepth 100000 in
set_option maxHeartbeats 2000000 in
theorem rcolumns_any (a : Option Addr) (len cap : Nat) (line : List Int) (t : Int) (tab : Nat) (htab : tabM t = tab) (w : World) (hr : Rd .i32 w a len cap line) (hlen : len ≤ 100000) :
    Calls Tryd.prog 20 #[.slice a len cap, .int .i64 t] w fun e w' => e = .returned (.int .i64 (endCol (units line tab))) ∧ Below w.heap.size w w' := by
  have hT := tabM_in t
  rw [htab] at hT
  have HUN := Lib.hid (runits_any a len cap line t tab htab w hr hlen)
  have HLL := Lib.hid hr.len
  clear htab hr
  go_enter Tryd.func20, Tryd.ntmps20
  go_wp2_with fail
  refine HUN.out.mono ?_
  rintro e w1 ⟨ua, n, uc, vs, rfl, hru, huu, htx, hb1⟩
  have hnl := units_len huu hru.len
  have hns := hru.small
  have HB1 := Lib.hid hb1
  clear hb1 htx HUN
  by_cases hn0 : n = 0
  · have he : endCol (units line tab) = 0 := by
      have : units line tab = [] := List.eq_nil_of_length_eq_zero (by omega)
      rw [this]; rfl
    have HE := Lib.hid he
    clear he hnl hru huu
    subst hn0
    go_wp2_with fail
    go_ret
    exact ⟨ret_int (by rw [HE.out]; rfl), HB1.out⟩
  · have he := endCol_at hnl (by omega)
    obtain ⟨b, off, rfl, hbl⟩ := rdu_some hru (by omega)
    obtain ⟨P, hP⟩ : ∃ P, n - 1 = P := ⟨_, rfl⟩
    rw [hP] at he
    obtain ⟨⟨⟨f, g, c, d⟩, ta, tl, tc, tx⟩, hmem, hux, c0, c1, c2, c3, c4, -⟩ := unit_cells hru huu (i := P) (by omega)
    dsimp only at hux c0 c1 c2 c3 c4
    have hcb := pre_bound hT (unit_facts hnl (by omega) hux)
    rw [endCol_snoc] at hcb
    rw [hux] at he
    simp only at he hcb
    have HE := Lib.hid he
    rw [HLL.out] at hcb
    have e7 : (n : Int) - 1 = (P : Nat) := by omega
    have w7 : IntKind.i64.wrap ((n : Int) - 1) = (P : Nat) := by rw [IntKind.wrap_i64]; omega
    have w8 : IntKind.i64.wrap (P : Int) = (P : Nat) := by rw [IntKind.wrap_i64]; omega
    have w9 : IntKind.i64.wrap ((c : Int) + (d : Int)) = (c : Int) + (d : Int) := by rw [IntKind.wrap_i64]; omega
    have i7 : (0 : Int) ≤ (P : Int) := by omega
    have i8 : (P : Int) < (n : Int) := by omega
    have hn1 : 0 < n := by omega
    clear he hnl hru huu hmem hux hP hn0
    have hnz : ¬ n = 0 := by omega
    go_wp2_with fail
    go_quiet (fail)
    go_wp2_with fail
    go_ret
    exact ⟨ret_int (by rw [HE.out]; simp), bdrewN HB1.out _⟩

theorem colM_at {us : List Un} {i : Int} {k n : Nat} (hn : us.length = n) (hk : k < n) (hb : ∀ m, m < k → ((us.getD m default).to : Int) ≤ i) (h : i < (us.getD k default).to) : colM us i = ((us.getD k default).col, (us.getD k default).wd) := by
  refine colM_hit (take_pre (by omega)) (fun u hu => ?_) h
  obtain ⟨m, hm, rfl⟩ := List.getElem_of_mem hu
  simp only [List.length_take] at hm
  have := hb m (by omega)
  rw [List.getD_eq_getElem?_getD, List.getElem?_eq_getElem (by omega)] at this
  simpa using this
theorem colM_over {us : List Un} {i : Int} {n : Nat} (hn : us.length = n) (hb : ∀ m, m < n → ((us.getD m default).to : Int) ≤ i) : colM us i = (endCol us, 1) := by
  refine colM_none (fun u hu => ?_)
  obtain ⟨m, hm, rfl⟩ := List.getElem_of_mem hu
  have := hb m (by omega)
  rw [List.getD_eq_getElem?_getD, List.getElem?_eq_getElem (by omega)] at this
  simpa using this
theorem atM_at {us : List Un} {c : Int} {k n l : Nat} (hn : us.length = n) (hk : k < n) (hb : ∀ m, m < k → ((us.getD m default).col : Int) + (us.getD m default).wd ≤ c) (h : c < (us.getD k default).col + (us.getD k default).wd) : atM us l c = (us.getD k default).fr := by
  refine atM_hit (take_pre (by omega)) (fun u hu => ?_) h
  obtain ⟨m, hm, rfl⟩ := List.getElem_of_mem hu
  simp only [List.length_take] at hm
  have := hb m (by omega)
  rw [List.getD_eq_getElem?_getD, List.getElem?_eq_getElem (by omega)] at this
  simpa using this
theorem atM_over {us : List Un} {c : Int} {n l : Nat} (hn : us.length = n) (hb : ∀ m, m < n → ((us.getD m default).col : Int) + (us.getD m default).wd ≤ c) : atM us l c = l := by
  refine atM_none (fun u hu => ?_)
  obtain ⟨m, hm, rfl⟩ := List.getElem_of_mem hu
  have := hb m (by omega)
  rw [List.getD_eq_getElem?_getD, List.getElem?_eq_getElem (by omega)] at this
  simpa using this

set_option maxRecDepth 100000 in
set_option maxHeartbeats 2000000 in
theorem rcol_any (a : Option Addr) (len cap : Nat) (line : List Int) (t : Int) (tab : Nat) (htab : tabM t = tab) (x : Int) (w : World) (hr : Rd .i32 w a len cap line) (hlen : len ≤ 100000) :
    Calls Tryd.prog 22 #[.slice a len cap, .int .i64 t, .int .i64 x] w fun e w' =>
      (∃ c d : Nat, e = .returned (.tuple #[.int .i64 c, .int .i64 d]) ∧ colM (units line tab) x = (c, d)) ∧ Below w.heap.size w w' := by
  have HUN := Lib.hid (runits_any a len cap line t tab htab w hr hlen)
  have HCS := Lib.hid (fun (W : World) (hW : Below w.heap.size w W) => rcolumns_any a len cap line t tab htab W (hr.below hW) hlen)
  clear htab hr
  go_enter Tryd.func22, Tryd.ntmps22
  go_wp2_with fail
  refine HUN.out.mono ?_
  rintro e w1 ⟨ua, n, uc, vs, rfl, hru, huu, htx, hb1⟩
  have HNL := Lib.hid (units_len huu hru.len)
  have hns := hru.small
  have HB1 := Lib.hid hb1
  have HRU := Lib.hid hru
  have HUU := Lib.hid huu
  clear hb1 htx HUN hru huu
  by_cases hn0 : n = 0
  · have HO := Lib.hid (colM_over (i := x) HNL.out (fun m hm => by omega))
    subst hn0
    go_wp2_with fail
    go_loopw [9] (fun i wr => i = .int .i64 0 ∧ wr = w1) (fun _ _ => 0)
    case atStart => exact ⟨rfl, rfl⟩
    case round =>
      obtain ⟨rfl, rfl⟩ := hrel
      go_wp2_with fail
      refine (HCS.out _ HB1.out).mono ?_
      rintro e w2 ⟨rfl, hb2⟩
      go_wp2_with fail
      go_ret2
      exact ⟨⟨_, 1, rfl, HO.out⟩, HB1.out.trans (hb2.mono HB1.out.size)⟩
  obtain ⟨b, off, rfl, hbl⟩ := rdu_some HRU.out (by omega)
  go_wp2_with fail
  go_loopw [9] (fun i wr => ∃ k : Nat, k ≤ n ∧ i = .int .i64 k ∧ Hid (∀ m, m < k → (((units line tab).getD m default).to : Int) ≤ x) ∧ wr = w1) (fun i _ => n - (intOf i).toNat)
  case atStart => exact ⟨0, by omega, rfl, fun m hm => by omega, rfl⟩
  case round =>
    obtain ⟨k, hk, rfl, hb, rfl⟩ := hrel
    by_cases hlt : k < n
    · obtain ⟨⟨⟨f, g, c, d⟩, ta, tl, tc, tx⟩, hmem, hux, c0, c1, c2, c3, c4, -⟩ := unit_cells HRU.out HUU.out hlt
      dsimp only at hux c0 c1 c2 c3 c4
      have i7 : (0 : Int) ≤ (k : Int) := by omega
      have i8 : (k : Int) < (n : Int) := by omega
      by_cases hx : x < g
      · have HC : Hid (colM (units line tab) x = (c, d)) := by
          have h := colM_at HNL.out hlt hb.out (by rw [hux]; exact hx)
          rw [hux] at h
          exact h
        clear hmem hux
        go_wp2_with fail
        go_quiet (fail)
        go_wp2_with fail
        go_ret2
        exact ⟨⟨c, d, rfl, HC.out⟩, bdrewN HB1.out _⟩
      · have HN : Hid (∀ m, m < k + 1 → (((units line tab).getD m default).to : Int) ≤ x) := fun m hm => by
          by_cases h : m = k
          · subst h; rw [hux]; simp only; omega
          · exact hb.out m (by omega)
        clear hmem hux
        go_wp2_with fail
        go_roundw
        case rel => exact ⟨k + 1, by omega, by go_num, HN, trivial⟩
        case measure => simp [intOf]; omega
    · obtain rfl : k = n := by omega
      have HO := Lib.hid (colM_over (i := x) HNL.out hb.out)
      go_wp2_with fail
      refine (HCS.out _ HB1.out).mono ?_
      rintro e w2 ⟨rfl, hb2⟩
      go_wp2_with fail
      go_ret2
      exact ⟨⟨_, 1, rfl, HO.out⟩, HB1.out.trans (hb2.mono HB1.out.size)⟩

set_option maxRecDepth 100000 in
set_option maxHeartbeats 2000000 in
theorem rat_any (a : Option Addr) (len cap : Nat) (line : List Int) (t : Int) (tab : Nat) (htab : tabM t = tab) (x : Int) (w : World) (hr : Rd .i32 w a len cap line) (hlen : len ≤ 100000) :
    Calls Tryd.prog 24 #[.slice a len cap, .int .i64 t, .int .i64 x] w fun e w' => e = .returned (.int .i64 (atM (units line tab) len x)) ∧ Below w.heap.size w w' := by
  have hT := tabM_in t
  rw [htab] at hT
  have hsm := hr.small
  have HUN := Lib.hid (runits_any a len cap line t tab htab w hr hlen)
  have HLL := Lib.hid hr.len
  clear htab hr
  go_enter Tryd.func24, Tryd.ntmps24
  go_wp2_with fail
  refine HUN.out.mono ?_
  rintro e w1 ⟨ua, n, uc, vs, rfl, hru, huu, htx, hb1⟩
  have HNL := Lib.hid (units_len huu hru.len)
  have hns := hru.small
  have HB1 := Lib.hid hb1
  have HRU := Lib.hid hru
  have HUU := Lib.hid huu
  clear hb1 htx HUN hru huu
  by_cases hn0 : n = 0
  · have HO := Lib.hid (atM_over (c := x) (l := len) HNL.out (fun m hm => by omega))
    subst hn0
    go_wp2_with fail
    go_loopw [8] (fun i wr => i = .int .i64 0 ∧ wr = w1) (fun _ _ => 0)
    case atStart => exact ⟨rfl, rfl⟩
    case round =>
      obtain ⟨rfl, rfl⟩ := hrel
      go_wp2_with fail
      go_ret
      exact ⟨ret_int (by rw [HO.out]), HB1.out⟩
  obtain ⟨b, off, rfl, hbl⟩ := rdu_some HRU.out (by omega)
  go_wp2_with fail
  go_loopw [8] (fun i wr => ∃ k : Nat, k ≤ n ∧ i = .int .i64 k ∧ Hid (∀ m, m < k → (((units line tab).getD m default).col : Int) + ((units line tab).getD m default).wd ≤ x) ∧ Below w1.heap.size w1 wr) (fun i _ => n - (intOf i).toNat)
  case atStart => exact ⟨0, by omega, rfl, fun m hm => by omega, Below.refl _ _⟩
  case round =>
    obtain ⟨k, hk, rfl, hb, hbw⟩ := hrel
    by_cases hlt : k < n
    · obtain ⟨⟨⟨f, g, c, d⟩, ta, tl, tc, tx⟩, hmem, hux, c0, c1, c2, c3, c4, -⟩ := unit_cells (HRU.out.below hbw) HUU.out hlt
      dsimp only at hux c0 c1 c2 c3 c4
      have hcb := pre_bound hT (unit_facts HNL.out hlt hux)
      rw [endCol_snoc, HLL.out] at hcb
      simp only at hcb
      have i7 : (0 : Int) ≤ (k : Int) := by omega
      have i8 : (k : Int) < (n : Int) := by omega
      have w9 : IntKind.i64.wrap ((c : Int) + (d : Int)) = (c : Int) + (d : Int) := by rw [IntKind.wrap_i64]; omega
      by_cases hx : x < (c : Int) + (d : Int)
      · have HC : Hid (atM (units line tab) len x = f) := by
          have h := atM_at (l := len) HNL.out hlt hb.out (by rw [hux]; exact hx)
          rw [hux] at h
          exact h
        clear hmem hux
        go_wp2_with fail
        go_quiet (fail)
        go_wp2_with fail
        go_ret
        exact ⟨ret_int (by rw [HC.out]), HB1.out.trans ((bdrewN hbw _).mono HB1.out.size)⟩
      · have HN : Hid (∀ m, m < k + 1 → (((units line tab).getD m default).col : Int) + ((units line tab).getD m default).wd ≤ x) := fun m hm => by
          by_cases h : m = k
          · subst h; rw [hux]; simp only; omega
          · exact hb.out m (by omega)
        clear hmem hux
        go_wp2_with fail
        go_quiet (fail)
        go_wp2_with fail
        go_roundw
        case rel => exact ⟨k + 1, by omega, by go_num, HN, bdrewN hbw _⟩
        case measure => simp [intOf]; omega
    · obtain rfl : k = n := by omega
      have HO := Lib.hid (atM_over (c := x) (l := len) HNL.out hb.out)
      go_wp2_with fail
      go_ret
      exact ⟨ret_int (by rw [HO.out]), HB1.out.trans (hbw.mono HB1.out.size)⟩
end Go.Proofs.YthceooehndiglaaDoor.U
