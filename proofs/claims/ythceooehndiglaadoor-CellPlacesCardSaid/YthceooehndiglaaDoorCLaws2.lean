/-
  What the laws over a slice of units share; the walk of CellTabs.
-/
import Derived.Test.YthceooehndiglaaDoorCAwake
import Derived.Deep.QuietTactic
import Derived.BigQuiet
import Derived.RegionTactic
namespace Go.Proofs.YthceooehndiglaaDoor.U
open Go.RowKit
set_option linter.unusedVariables false
set_option linter.unusedSimpArgs false

theorem take_pre {α : Type} [Inhabited α] {us : List α} {i : Nat} (hi : i < us.length) : us.take i ++ [us.getD i default] <+: us := by
  have e : us.take i ++ [us.getD i default] = us.take (i + 1) := by
    rw [List.take_add_one, List.getD_eq_getElem?_getD, List.getElem?_eq_getElem hi]; simp
  rw [e]
  exact List.take_prefix _ _

/-- the i-th unit as it lies, and what holds of it -/
theorem unit_cells {w : World} {b off n cap : Nat} {vs : List UV} {line : List Int} {tab : Nat} (hr : RdU w (some ⟨b, off, none⟩) n cap vs) (hu : vs.map UV.u = units line tab) {i : Nat} (hi : i < n) :
    ∃ x : UV, x ∈ vs ∧ (units line tab).getD i default = x.u ∧ w.cell? ⟨b, off + i * 5, none⟩ = some (.int .i64 x.u.fr) ∧ w.cell? ⟨b, off + i * 5 + 1, none⟩ = some (.int .i64 x.u.to) ∧ w.cell? ⟨b, off + i * 5 + 2, none⟩ = some (.int .i64 x.u.col) ∧
      w.cell? ⟨b, off + i * 5 + 3, none⟩ = some (.int .i64 x.u.wd) ∧ w.cell? ⟨b, off + i * 5 + 4, none⟩ = some (.slice x.ta x.tl x.tc) ∧ Rd .i32 w x.ta x.tl x.tc x.tx := by
  obtain ⟨h1, h2, h3, h4, h5, h6⟩ := hr
  obtain ⟨b', off', ha, hc⟩ := h5 (by omega)
  simp only [Option.some.injEq, Addr.mk.injEq, and_true] at ha
  obtain ⟨rfl, rfl⟩ := ha
  obtain ⟨c0, c1, c2, c3, c4⟩ := hc i hi
  have hx : vs[i]? = some (vs.getD i default) := by rw [List.getD_eq_getElem?_getD, List.getElem?_eq_getElem (by omega)]; rfl
  have hmem := List.mem_of_getElem? hx
  refine ⟨vs.getD i default, hmem, ?_, c0, c1, c2, c3, c4, h6 _ hmem⟩
  rw [← hu, List.getD_eq_getElem?_getD, List.getElem?_map, hx]
  rfl
theorem units_len {vs : List UV} {line : List Int} {tab n : Nat} (hu : vs.map UV.u = units line tab) (hl : vs.length = n) : (units line tab).length = n := by rw [← hu]; simpa using hl
theorem rdu_some {w : World} {a : Option Addr} {n cap : Nat} {vs : List UV} (hr : RdU w a n cap vs) (hn : 0 < n) : ∃ b off, a = some ⟨b, off, none⟩ ∧ b < w.heap.size := by
  obtain ⟨h1, h2, h3, h4, h5, h6⟩ := hr
  obtain ⟨b, off, ha, hc⟩ := h5 hn
  exact ⟨b, off, ha, block_lt_of_cell (hc 0 hn).1⟩
/-- what holds of the i-th unit -/
theorem unit_facts {line : List Int} {tab n i : Nat} (hn : (units line tab).length = n) (hi : i < n) {u : Un} (hu : (units line tab).getD i default = u) :
    (units line tab).take i ++ [u] <+: units line tab := by rw [← hu]; exact take_pre (by omega)
theorem tab_next {tab col : Nat} (ht : 1 ≤ tab) : (col + (tab - col % tab)) % tab = 0 := by
  have h1 := Nat.div_add_mod col tab
  have h2 := Nat.mod_lt col (show 0 < tab by omega)
  have h3 : col + (tab - col % tab) = tab * (col / tab + 1) := by rw [Nat.mul_add]; omega
  rw [h3, Nat.mul_mod_right]

set_option maxRecDepth 100000 in
set_option maxHeartbeats 2000000 in
theorem cellTabs_walk (a : Option Addr) (len cap : Nat) (line : List Int) (t : Int) (w : World) (hr : Rd .i32 w a len cap line) (wt : (Lit.int .i64 t).wf = true) (hg : Gl w) :
    Calls Tryd.prog 7 #[.slice a len cap, .int .i64 t] w fun e w' => e = .returned (.bool true) ∧ Below w.heap.size w w' := by
  have hsm := hr.small
  have hti := wf_i64_in wt
  have HA := Lib.hid (fun W h => awake_any W h)
  have HG := Lib.hid hg
  clear hg wt
  by_cases hL : 1000 < len
  · go_enter Tryd.func7, Tryd.ntmps7
    go_wp2_with fail
    refine (HA.out _ HG.out).mono ?_
    rintro e w1 ⟨rfl, hb1⟩
    go_wp2_with fail
    go_ret
    exact ⟨rfl, hb1⟩
  by_cases h1 : t < 1
  · go_enter Tryd.func7, Tryd.ntmps7
    go_wp2_with fail
    refine (HA.out _ HG.out).mono ?_
    rintro e w1 ⟨rfl, hb1⟩
    go_wp2_with fail
    go_ret
    exact ⟨rfl, hb1⟩
  by_cases h2 : 64 < t
  · go_enter Tryd.func7, Tryd.ntmps7
    go_wp2_with fail
    refine (HA.out _ HG.out).mono ?_
    rintro e w1 ⟨rfl, hb1⟩
    go_wp2_with fail
    go_ret
    exact ⟨rfl, hb1⟩
  obtain ⟨tab, rfl⟩ : ∃ tab : Nat, t = tab := ⟨t.toNat, by omega⟩
  have hT : 1 ≤ tab ∧ tab ≤ 64 := by omega
  have htab : tabM (tab : Int) = tab := by unfold tabM; rw [if_neg (by omega)]; omega
  have hun := units_any a len cap line tab tab htab w hr (by omega) HG.out
  have HUN := Lib.hid hun
  have hll := hr.len
  clear hun htab
  go_enter Tryd.func7, Tryd.ntmps7
  go_wp2_with fail
  refine HUN.out.mono ?_
  rintro e w1 ⟨ua, n, uc, vs, rfl, hru, huu, htx, hb1⟩
  have hnl := units_len huu hru.len
  have hns := hru.small
  have HRU := Lib.hid hru
  have HUU := Lib.hid huu
  have HR := Lib.hid hr
  have HB1 := Lib.hid hb1
  have HNL := Lib.hid hnl
  have HG1 := Lib.hid (HG.out.below HG.out.lt hb1)
  have HLL := Lib.hid hll
  clear hru huu hr hb1 htx hnl HUN hll
  by_cases hn0 : n = 0
  · subst hn0
    go_wp2_with fail
    go_loopw [6] (fun i wr => i = .int .i64 0 ∧ wr = w1) (fun _ _ => 0)
    case atStart => exact ⟨rfl, rfl⟩
    case round =>
      obtain ⟨rfl, rfl⟩ := hrel
      go_wp2_with fail
      refine (HA.out _ HG1.out).mono ?_
      rintro e w2 ⟨rfl, hb2⟩
      go_wp2_with fail
      go_ret
      exact ⟨rfl, HB1.out.trans (hb2.mono HB1.out.size)⟩
  · obtain ⟨b, off, rfl, hbl⟩ := rdu_some HRU.out (by omega)
    go_wp2_with fail
    go_loopw [6] (fun i wr => ∃ k : Nat, k ≤ n ∧ i = .int .i64 k ∧ Below w1.heap.size w1 wr) (fun i _ => n - (intOf i).toNat)
    case atStart => exact ⟨0, by omega, rfl, Below.refl _ _⟩
    case round =>
      obtain ⟨k, hk, rfl, hbw⟩ := hrel
      by_cases hlt : k < n
      · obtain ⟨⟨⟨f, g, c, d⟩, ta, tl, tc, tx⟩, hmem, hux, c0, c1, c2, c3, c4, -⟩ := unit_cells (HRU.out.below hbw) HUU.out hlt
        obtain ⟨q1, q2, q3, q4, q5, q6, -, -⟩ := next_unit (unit_facts HNL.out hlt hux)
        have hcb := pre_bound hT (unit_facts HNL.out hlt hux)
        rw [endCol_snoc] at hcb
        simp only at q1 q2 q3 q4 q5 q6 c0 c1 c2 c3 c4 hcb
        rw [HLL.out] at q4 hcb
        obtain ⟨bl, ol, rfl, hbl2, hcl⟩ := rd_rn (HR.out.below (HB1.out.trans (hbw.mono HB1.out.size))) (by omega)
        have cl := hcl f (by omega)
        have i1 : (0 : Int) ≤ (f : Int) := by omega
        have i2 : (f : Int) < (len : Int) := by omega
        have i3 : (0 : Int) ≤ (k : Int) := by omega
        have i4 : (k : Int) < (n : Int) := by omega
        by_cases h9 : rn line f = 9
        · have e5 : d = tab - c % tab := by rw [q5]; unfold width1; rw [if_pos h9]
          have e6 := q6 h9
          have hmod : (c + d) % tab = 0 := by rw [e5]; exact tab_next hT.1
          have hdt : d ≤ tab := by omega
          rw [h9] at cl
          have hrem : Int.tmod ((c : Int) + (d : Int)) (tab : Int) = 0 := by
            rw [Int.tmod_eq_emod_of_nonneg (by omega)]
            have : (((c + d) % tab : Nat) : Int) = 0 := by rw [hmod]; rfl
            simpa using this
          have w1' : IntKind.i64.wrap ((c : Int) + (d : Int)) = (c : Int) + (d : Int) := by rw [IntKind.wrap_i64]; omega
          have w2' : IntKind.i64.wrap ((f : Int) + 1) = (f : Int) + 1 := by rw [IntKind.wrap_i64]; omega
          have n1 : ¬ (tab : Int) < (d : Int) := by omega
          have z1 : ((tab : Int) == 0) = false := by simp; omega
          have z2 : ¬ (tab : Int) = 0 := by omega
          have z3 : ¬ tab = 0 := by omega
          have hge : (g : Int) = (f : Int) + 1 := by omega
          rw [hge] at c1
          have hT1 := hT.1
          have hT2 := hT.2
          clear hmem hux q1 q2 q4 q5 q6 hcl h9 e5 e6 hmod hge
          go_wp2_with fail
          go_quiet (fail)
          go_wp2_with fail
          go_roundw
          case rel => exact ⟨k + 1, by omega, by go_num, bdrewN hbw _⟩
          case measure => simp [intOf]; omega
        · have h9' : (rn line f == 9) = false := by simpa using h9
          obtain ⟨r, hrr⟩ : ∃ r, rn line f = r := ⟨_, rfl⟩
          rw [hrr] at cl h9'
          clear hmem hux q1 q2 q4 q5 q6 hcl h9 hrr
          go_wp2_with fail
          go_quiet (fail)
          go_wp2_with fail
          go_roundw
          case rel => exact ⟨k + 1, by omega, by go_num, bdrewN hbw _⟩
          case measure => simp [intOf]; omega
      · obtain rfl : k = n := by omega
        go_wp2_with fail
        refine (HA.out _ (HG1.out.below HG1.out.lt hbw)).mono ?_
        rintro e w2 ⟨rfl, hb2⟩
        go_wp2_with fail
        go_ret
        exact ⟨rfl, HB1.out.trans ((hbw.trans (hb2.mono hbw.size)).mono HB1.out.size)⟩
end Go.Proofs.YthceooehndiglaaDoor.U
