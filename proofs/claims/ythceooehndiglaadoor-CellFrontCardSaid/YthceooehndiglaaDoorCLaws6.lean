/-
  The walk of CellFront.
-/
import Derived.Test.YthceooehndiglaaDoorCLaws2
import Derived.Test.YthceooehndiglaaDoorCSame
namespace Go.Proofs.YthceooehndiglaaDoor.U
open Go.RowKit
set_option linter.unusedVariables false
set_option linter.unusedSimpArgs false

theorem rn_app {line more : List Int} {i : Nat} (h : i < line.length) : rn (line ++ more) i = rn line i := by
  unfold rn
  rw [List.getD_eq_getElem?_getD, List.getD_eq_getElem?_getD, List.getElem?_append_left h]
theorem unitsN_app {line more : List Int} {tab : Nat} : ∀ i, i ≤ line.length → unitsN (line ++ more) tab i = unitsN line tab i
  | 0, _ => rfl
  | i + 1, h => by
    have ih := unitsN_app (line := line) (more := more) (tab := tab) i (by omega)
    have hg := good line tab i
    rw [unitsN_succ, unitsN_succ, ih]
    have hrn : rn (line ++ more) i = rn line i := rn_app (by omega)
    have hj : joins (line ++ more) (unitsN line tab i) i = joins line (unitsN line tab i) i := by
      unfold joins
      rw [hrn]
      rcases snoc_cases (unitsN line tab i) with e | ⟨p, x, e⟩
      · rw [e]; rfl
      · have hx := (hg.each p x [] e)
        have hf : rn (line ++ more) x.fr = rn line x.fr := rn_app (by omega)
        rw [e, openU_snoc, openU_snoc, hf]
        unfold marksU zc
        rw [hf]
    have hn : newU (line ++ more) tab (unitsN line tab i) i = newU line tab (unitsN line tab i) i := by
      unfold newU width1
      rw [hrn]
    unfold stepU
    rw [hj, hn]
theorem unitsN_on {line : List Int} {tab : Nat} {p : List Un} {i : Nat} {t : List Un} (h : unitsN line tab i = p ++ t) (ht : t ≠ []) : ∀ d, ∃ t', t' ≠ [] ∧ unitsN line tab (i + d) = p ++ t'
  | 0 => ⟨t, ht, h⟩
  | d + 1 => by
    obtain ⟨t', ht', e⟩ := unitsN_on h ht d
    rw [show i + (d + 1) = (i + d) + 1 from by omega, unitsN_succ, e]
    exact stepU_app ht'
theorem front {line more : List Int} {tab : Nat} {p : List Un} {u : Un} (h : units line tab = p ++ [u]) : ∃ t, t ≠ [] ∧ units (line ++ more) tab = p ++ t := by
  have h1 : unitsN (line ++ more) tab line.length = p ++ [u] := by rw [unitsN_app _ (Nat.le_refl _)]; exact h
  have := unitsN_on h1 (by simp) more.length
  unfold units
  rw [List.length_append]
  exact this
theorem textM_app {line more : List Int} {u : Un} (h1 : u.fr < u.to) (h2 : u.to ≤ line.length) : textM (line ++ more) u = textM line u := by
  unfold textM
  rw [rn_app (by omega), List.take_append_of_le_length h2]

/-- what the comparison asks: all but the last unit are the same in both -/
theorem front_same {line more : List Int} {tab n1 n2 m : Nat} {vs1 vs2 : List UV} (hn : (units line tab).length = n1) (hn2 : (units (line ++ more) tab).length = n2) (hm : n1 = m + 1)
    (hu1 : vs1.map UV.u = units line tab) (hu2 : vs2.map UV.u = units (line ++ more) tab) (ht1 : ∀ x ∈ vs1, x.tx = textM line x.u) (ht2 : ∀ x ∈ vs2, x.tx = textM (line ++ more) x.u) :
    n1 ≤ n2 ∧ (vs1.take m).map UV.u = (vs2.take m).map UV.u ∧ (vs1.take m).map UV.tx = (vs2.take m).map UV.tx := by
  rcases snoc_cases (units line tab) with e | ⟨p, u, e⟩
  · rw [e] at hn; simp at hn; omega
  · obtain ⟨t, ht, e2⟩ := front (more := more) e
    have hpl : p.length = m := by rw [e] at hn; simp at hn; omega
    have ht1' : 1 ≤ t.length := by cases t with | nil => exact absurd rfl ht | cons => simp
    have k1 : (vs1.take m).map UV.u = p := by rw [List.map_take, hu1, e, ← hpl, List.take_left']; rfl
    have k2 : (vs2.take m).map UV.u = p := by rw [List.map_take, hu2, e2, ← hpl, List.take_left']; rfl
    have g : ∀ v ∈ p, v.fr < v.to ∧ v.to ≤ line.length := fun v hv => by
      obtain ⟨a, b, rfl⟩ := List.append_of_mem hv
      have := (good line tab line.length).each a v (b ++ [u]) (by show units line tab = _; rw [e]; simp)
      exact ⟨this.2.2.1, this.2.2.2.1⟩
    refine ⟨by rw [← hn, ← hn2, e, e2]; simp; omega, by rw [k1, k2], ?_⟩
    have j1 : (vs1.take m).map UV.tx = p.map (textM line) := by
      rw [← k1, List.map_map]
      exact List.map_congr_left (fun x hx => ht1 x (List.mem_of_mem_take hx))
    have j2 : (vs2.take m).map UV.tx = p.map (textM (line ++ more)) := by
      rw [← k2, List.map_map]
      exact List.map_congr_left (fun x hx => ht2 x (List.mem_of_mem_take hx))
    rw [j1, j2]
    exact List.map_congr_left (fun v hv => (textM_app (g v hv).1 (g v hv).2).symm)

set_option maxRecDepth 100000 in
set_option maxHeartbeats 4000000 in
theorem cellFront_walk (a : Option Addr) (len cap : Nat) (line : List Int) (b : Option Addr) (lenb capb : Nat) (more : List Int) (t : Int) (w : World) (hr : Rd .i32 w a len cap line) (hq : Rd .i32 w b lenb capb more) (wt : (Lit.int .i64 t).wf = true) (hg : Gl w) :
    Calls Tryd.prog 9 #[.slice a len cap, .slice b lenb capb, .int .i64 t] w fun e w' => e = .returned (.bool true) ∧ Below w.heap.size w w' := by
  have hsm := hr.small
  have hsm2 := hq.small
  by_cases hL : 1000 < len
  · clear hr hg hq
    go_enter Tryd.func9, Tryd.ntmps9
    go_wp2_with fail
    go_ret
    exact ⟨rfl, Below.refl _ _⟩
  by_cases hM : 1000 < lenb
  · clear hr hg hq
    go_enter Tryd.func9, Tryd.ntmps9
    go_wp2_with fail
    go_ret
    exact ⟨rfl, Below.refl _ _⟩
  obtain ⟨tab, htab⟩ : ∃ tab, tabM t = tab := ⟨_, rfl⟩
  obtain ⟨i0, hi, hz0, hz1, hz2⟩ := info_parts infoR
  have HUN := Lib.hid (units_any a len cap line t tab htab w hr (by omega) hg)
  have HUN2 := Lib.hid (fun (a' : Option Addr) (n c : Nat) (ls : List Int) (W : World) (h1 : Rd .i32 W a' n c ls) (h2 : n ≤ 100000) (h3 : Gl W) => units_any a' n c ls t tab htab W h1 h2 h3)
  have HA := Lib.hid (fun (W : World) (hW : Below w.heap.size w W) => awake_any W (hg.below hg.lt hW))
  have HGL := Lib.hid (fun (W : World) (hW : Below w.heap.size w W) => hg.below hg.lt hW)
  have HR := Lib.hid hr
  have HQ := Lib.hid hq
  clear htab hr hg wt hq
  go_enter Tryd.func9, Tryd.ntmps9
  go_wp2_with fail
  refine HUN.out.mono ?_
  rintro e w1 ⟨ua, n, uc, vs, rfl, hru, huu, htx, hb1⟩
  have hnl := units_len huu hru.len
  have hns := hru.small
  have HRU := Lib.hid hru
  have HUU := Lib.hid huu
  have HB1 := Lib.hid hb1
  have HNL := Lib.hid hnl
  have HTX := Lib.hid htx
  have s1 := hb1.size
  clear hru huu hb1 htx hnl HUN
  have HO : Hid ((w1.alloc (.cells #[] 21)).ownsRow w1.heap.size 21 1 (.slice (some ⟨w1.heap.size, 0, none⟩) 0 0) 0 []) :=
    own_of_row (cs := []) (heap_alloc_new w1 _) (Nat.le_refl _) ⟨rfl, rfl⟩ (by unfold maxLen; omega)
  have HBA := Lib.hid ((Below.refl w1.heap.size w1).alloc (Nat.le_refl _) (.cells #[] 21))
  have HRA := Lib.hid (HR.out.below (HB1.out.trans (HBA.out.mono HB1.out.size)))
  have HQA := Lib.hid (HQ.out.below (HB1.out.trans (HBA.out.mono HB1.out.size)))
  go_wp2_with (first
    | (at_builtin; refine wpList_appRd rfl (.tmp 20) (.tmp 21) 24 rfl w1.heap.size 21 i0 (.int .i32 0) 4 Tryd.underlying24 hi hz0 hz1 hz2 rfl _ _ _ rfl HO.out .i32 _ _ _ _ rfl HRA.out (by unfold maxLen; omega) (by omega) (by simp) ?_; intro v2 w2 hown2 hb2; have HO2 := Lib.hid hown2; have HB2 := Lib.hid (HBA.out.trans hb2); clear hown2 hb2)
    | (at_builtin; refine wpList_appRd rfl (.tmp 22) (.tmp 23) 24 rfl w1.heap.size 21 i0 (.int .i32 0) 4 Tryd.underlying24 hi hz0 hz1 hz2 rfl _ _ _ rfl HO2.out .i32 _ _ _ _ rfl (HQ.out.below (HB1.out.trans (HB2.out.mono HB1.out.size))) (by unfold maxLen; omega) (by omega) HB2.out.size ?_; intro v3 w3 hown3 hb3; obtain ⟨a3, c3, rfl⟩ := own_slice hown3; have HO3 := Lib.hid hown3; have HB3 := Lib.hid (HB2.out.trans hb3); clear hown3 hb3))
  have hz : 0 + len + lenb = len + lenb := by omega
  have HR3 : Hid (Rd .i32 w3 a3 (len + lenb) c3 (line ++ more)) := by
    have h := HO3.out
    rw [hz, List.nil_append, ← List.map_append] at h
    exact Rd.own h (fun x hx => by
      rcases List.mem_append.1 hx with hx | hx
      · exact HR.out.2.2.2.1 x hx
      · exact HQ.out.2.2.2.1 x hx)
  have s3 := HB3.out.size
  have HG3 := Lib.hid (HGL.out _ (HB1.out.trans (HB3.out.mono HB1.out.size)))
  refine (HUN2.out a3 _ c3 _ _ HR3.out (by omega) HG3.out).mono ?_
  rintro e w4 ⟨ub, n2, uc2, vs2, rfl, hru2, huu2, htx2, hb4⟩
  have HB4 := Lib.hid (HB3.out.trans (hb4.mono s3))
  have HBW := Lib.hid (HB1.out.trans (HB4.out.mono HB1.out.size))
  have HRU1 := Lib.hid (HRU.out.below HB4.out)
  have HRU2 := Lib.hid hru2
  have hnl2 := Lib.hid (units_len huu2 hru2.len)
  have HUU2 := Lib.hid huu2
  have HTX2 := Lib.hid htx2
  have hns2 := hru2.small
  clear hru2 huu2 htx2 hb4 HO3 HO2 HB2 hz
  by_cases hn0 : n = 0
  · subst hn0
    go_wp2_with fail
    go_quiet (fail)
    go_wp2_with fail
    refine (HA.out _ (bdrewN HBW.out _)).mono ?_
    rintro e w5 ⟨rfl, hb5⟩
    go_wp2_with fail
    go_ret
    exact ⟨rfl, (bdrewN HBW.out _).trans (hb5.mono HBW.out.size)⟩
  · obtain ⟨m, hm⟩ : ∃ m, n = m + 1 := ⟨n - 1, by omega⟩
    obtain ⟨k1, k2, k3⟩ := front_same HNL.out hnl2.out hm HUU.out HUU2.out HTX.out HTX2.out
    have HT1 := Lib.hid (HRU1.out.take m (by omega))
    have HT2 := Lib.hid (HRU2.out.take m (by omega))
    have K2 := Lib.hid k2
    have K3 := Lib.hid k3
    have hcap1 := HRU1.out.2.1
    have hcap2 := HRU2.out.2.1
    obtain ⟨p1, o1, rfl, -⟩ := rdu_some HRU1.out (by omega)
    obtain ⟨p2, o2, rfl, -⟩ := rdu_some HRU2.out (by omega)
    have j1 : (0 : Int) < (n : Int) := by omega
    have j2 : decide ((n2 : Int) < (n : Int)) = false := by simp; omega
    have j1' : 0 < n := by omega
    have j2' : decide (n2 < n) = false := by simp; omega
    have j1'' : decide (0 < n) = true := by simp; omega
    have j3 : IntKind.i64.wrap ((n : Int) - 1) = (m : Int) := by rw [IntKind.wrap_i64]; omega
    have j4 : (0 : Int) ≤ (m : Int) := by omega
    have j5 : (m : Int) ≤ (uc : Int) := by omega
    have j6 : (m : Int) ≤ (uc2 : Int) := by omega
    have j7 : ¬ uc = 0 := by omega
    have j8 : ¬ uc2 = 0 := by omega
    clear k1 k2 k3 hm
    go_wp2_with fail
    go_quiet (first | (go_at_call 16; refine Calls.quiet_of (same_quiet _ _ m _ _ (vs.take m) (vs2.take m) _ (HT1.out.below (bdrewN (Below.refl _ _) _)) (HT2.out.below (bdrewN (Below.refl _ _) _)) K2.out K3.out)))
    go_wp2_with fail
    refine (HA.out _ (bdrewN HBW.out _)).mono ?_
    rintro e w5 ⟨rfl, hb5⟩
    go_wp2_with fail
    go_ret
    exact ⟨rfl, (bdrewN HBW.out _).trans (hb5.mono HBW.out.size)⟩
end Go.Proofs.YthceooehndiglaaDoor.U
