/-
  Move: the program's and the document's.
-/
import Derived.Test.YtbgbhlnidabhnaaMLeaf
import Derived.RegionTactic
import Derived.ChangeAlike
namespace Go.Proofs.Ytbgbhlnidabhnaa.U
open Go.RowKit
set_option linter.unusedVariables false
set_option linter.unusedSimpArgs false
set_option maxRecDepth 100000

/-- the line of a row that is read -/
theorem RdL.lenAt {F : Nat → Prop} {w W : World} {a : Option Addr} {n c i : Nat} {L : List (List Int)} (h : RdL F w a n c L) (hb : Below w.heap.size w W) (hi : i < n) :
    ∃ b off ra rc, a = some ⟨b, off, none⟩ ∧ b < w.heap.size ∧ W.cell? ⟨b, off + i, none⟩ = some (.slice ra (L.getD i []).length rc) := by
  have hl := h.len
  obtain ⟨vs, h1, h2, h3⟩ := h
  obtain ⟨b, off, rfl, hbl, hc⟩ := h1.at_ (by omega)
  have hx : L[i]? = some (L.getD i []) := by rw [List.getD_eq_getElem?_getD, List.getElem?_eq_getElem (by omega)]; rfl
  obtain ⟨ra, rc, e1, _⟩ := h3.2 i _ hx
  exact ⟨b, off, ra, rc, rfl, hbl, (hb.cell (p := ⟨b, off + i, none⟩) hbl).trans (hc i _ e1)⟩

set_option maxHeartbeats 2000000 in
theorem move_any (p : Po) (c : Ch) (oa na : Option Addr) (oc nc : Nat) (F : Nat → Prop) (w : World) (hn : RdL F w na c.now.length nc c.now) (hm : NearM p c) (hcc : i64b p.c) :
    Calls Try.prog 9 #[p.v, .agg #[.int .i64 c.pos, .slice oa c.old.length oc, .slice na c.now.length nc]] w fun e w' => e = .returned (ansV (moveP p c)) ∧ Below w.heap.size w w' := by
  obtain ⟨l, cc⟩ := p
  obtain ⟨pos, old, now⟩ := c
  simp only [NearM, i64b] at hm hcc
  obtain ⟨m1, m2, m3, m4, m5, m6⟩ := hm
  obtain ⟨k1, k2⟩ := hcc
  show Calls Try.prog 9 #[.agg #[.int .i64 l, .int .i64 cc], .agg #[.int .i64 pos, .slice oa old.length oc, .slice na now.length nc]] w _
  have hn : RdL F w na now.length nc now := hn
  have hbb : ∀ x y z : Array Value, Below w.heap.size w (((w.alloc (.cells x 23)).alloc (.cells y 26)).alloc (.cells z 23)) := fun _ _ _ => (((Below.refl _ w).alloc (Nat.le_refl _) _).alloc (by simp) _).alloc (by simp; omega) _
  generalize hon : old.length = on at *
  generalize hnn : now.length = nn at *
  by_cases h1 : l < pos
  · rw [moveP_0 (p := ⟨l, cc⟩) (c := ⟨pos, old, now⟩) h1]
    go_enter Try.func9, Try.ntmps9
    go_wp2
    refine bodyPost_ret (v := .tuple #[.agg #[.int .i64 l, .int .i64 cc], .bool true]) ?_ rfl ⟨rfl, hbb _ _ _⟩
    rw [results_ct rfl]
    go_simp
  · by_cases h2 : (on : Int) ≤ l - pos
    · rw [moveP_1 (p := ⟨l, cc⟩) (c := ⟨pos, old, now⟩) h1 (by rw [hon]; exact h2)]
      have e2 : ¬ l < pos + (on : Int) := by omega
      go_enter Try.func9, Try.ntmps9
      go_wp2
      refine bodyPost_ret (v := .tuple #[.agg #[.int .i64 (l + nn - on), .int .i64 cc], .bool true]) ?_ rfl ⟨by rw [← hon, ← hnn]; rfl, hbb _ _ _⟩
      rw [results_ct rfl, show l + (nn : Int) - (on : Int) = l + ((nn : Int) - (on : Int)) by omega]
      go_simp
    · by_cases h3 : (nn : Int) ≤ l - pos
      · rw [moveP_2 (p := ⟨l, cc⟩) (c := ⟨pos, old, now⟩) h1 (by rw [hon]; exact h2) (by rw [hnn]; exact h3)]
        have e2 : l < pos + (on : Int) := by omega
        go_enter Try.func9, Try.ntmps9
        go_wp2
        refine bodyPost_ret (v := .tuple #[.agg #[.int .i64 0, .int .i64 0], .bool false]) ?_ rfl ⟨rfl, hbb _ _ _⟩
        rw [results_ct rfl]
        go_simp
      · rw [moveP_3 (p := ⟨l, cc⟩) (c := ⟨pos, old, now⟩) h1 (by rw [hon]; exact h2) (by rw [hnn]; exact h3)]
        have e2 : l < pos + (on : Int) := by omega
        obtain ⟨k, hk⟩ : ∃ k : Nat, l - pos = (k : Int) := ⟨(l - pos).toNat, by omega⟩
        obtain ⟨b, off, ra, rc, rfl, hbl, hcell⟩ := hn.lenAt (i := k) (hbb #[.int .i64 l, .int .i64 cc] #[.int .i64 pos, .slice oa on oc, .slice na nn nc] #[.int .i64 0, .int .i64 0]) (by omega)
        obtain ⟨ln, hln⟩ : ∃ ln, (now.getD k []).length = ln := ⟨_, rfl⟩
        rw [hln] at hcell
        have hlen : ((now.getD (l - pos).toNat []).length : Int) = (ln : Int) := by rw [hk, Int.toNat_natCast, hln]
        show Calls _ _ _ _ fun e w' => e = .returned (ansV (some ⟨l, min cc ((now.getD (l - pos).toNat []).length : Int)⟩)) ∧ _
        rw [hlen]
        have hkn : k < nn := by omega
        have hk0 : (0 : Int) ≤ l - pos := by omega
        have hkt : (l - pos).toNat = k := by omega
        clear hlen hln hon hnn hn
        go_enter Try.func9, Try.ntmps9
        go_wp2
        go_region
        all_goals go_wp2
        all_goals (refine bodyPost_ret (v := .tuple #[.agg #[.int .i64 l, .int .i64 (min cc (ln : Int))], .bool true]) ?_ rfl ⟨rfl, by first | exact hbb _ _ _ | exact (hbb _ _ _).drew⟩)
        all_goals (rw [results_ct rfl]; go_simp; try omega)
set_option maxHeartbeats 2000000 in
theorem rmove_any (p : Po) (c : Ch) (oa na : Option Addr) (oc nc : Nat) (F : Nat → Prop) (w : World) (hn : RdL F w na c.now.length nc c.now) (hm : NearM p c) (hcc : i64b p.c) :
    Calls Try.prog 10 #[p.v, .agg #[.int .i64 c.pos, .slice oa c.old.length oc, .slice na c.now.length nc]] w fun e w' => e = .returned (ansV (moveP p c)) ∧ Below w.heap.size w w' := by
  obtain ⟨l, cc⟩ := p
  obtain ⟨pos, old, now⟩ := c
  simp only [NearM, i64b] at hm hcc
  obtain ⟨m1, m2, m3, m4, m5, m6⟩ := hm
  obtain ⟨k1, k2⟩ := hcc
  show Calls Try.prog 10 #[.agg #[.int .i64 l, .int .i64 cc], .agg #[.int .i64 pos, .slice oa old.length oc, .slice na now.length nc]] w _
  have hn : RdL F w na now.length nc now := hn
  have hbb : ∀ x y z : Array Value, Below w.heap.size w (((w.alloc (.cells x 23)).alloc (.cells y 26)).alloc (.cells z 23)) := fun _ _ _ => (((Below.refl _ w).alloc (Nat.le_refl _) _).alloc (by simp) _).alloc (by simp; omega) _
  generalize hon : old.length = on at *
  generalize hnn : now.length = nn at *
  by_cases h1 : l < pos
  · rw [moveP_0 (p := ⟨l, cc⟩) (c := ⟨pos, old, now⟩) h1]
    go_enter Try.func10, Try.ntmps10
    go_wp2
    refine bodyPost_ret (v := .tuple #[.agg #[.int .i64 l, .int .i64 cc], .bool true]) ?_ rfl ⟨rfl, hbb _ _ _⟩
    rw [results_ct rfl]
    go_simp
  · by_cases h2 : (on : Int) ≤ l - pos
    · rw [moveP_1 (p := ⟨l, cc⟩) (c := ⟨pos, old, now⟩) h1 (by rw [hon]; exact h2)]
      have e2 : ¬ l < pos + (on : Int) := by omega
      go_enter Try.func10, Try.ntmps10
      go_wp2
      refine bodyPost_ret (v := .tuple #[.agg #[.int .i64 (l + nn - on), .int .i64 cc], .bool true]) ?_ rfl ⟨by rw [← hon, ← hnn]; rfl, hbb _ _ _⟩
      rw [results_ct rfl]
      go_simp
    · by_cases h3 : (nn : Int) ≤ l - pos
      · rw [moveP_2 (p := ⟨l, cc⟩) (c := ⟨pos, old, now⟩) h1 (by rw [hon]; exact h2) (by rw [hnn]; exact h3)]
        have e2 : l < pos + (on : Int) := by omega
        go_enter Try.func10, Try.ntmps10
        go_wp2
        refine bodyPost_ret (v := .tuple #[.agg #[.int .i64 0, .int .i64 0], .bool false]) ?_ rfl ⟨rfl, hbb _ _ _⟩
        rw [results_ct rfl]
        go_simp
      · rw [moveP_3 (p := ⟨l, cc⟩) (c := ⟨pos, old, now⟩) h1 (by rw [hon]; exact h2) (by rw [hnn]; exact h3)]
        have e2 : l < pos + (on : Int) := by omega
        obtain ⟨k, hk⟩ : ∃ k : Nat, l - pos = (k : Int) := ⟨(l - pos).toNat, by omega⟩
        obtain ⟨b, off, ra, rc, rfl, hbl, hcell⟩ := hn.lenAt (i := k) (hbb #[.int .i64 l, .int .i64 cc] #[.int .i64 pos, .slice oa on oc, .slice na nn nc] #[.int .i64 0, .int .i64 0]) (by omega)
        obtain ⟨ln, hln⟩ : ∃ ln, (now.getD k []).length = ln := ⟨_, rfl⟩
        rw [hln] at hcell
        have hlen : ((now.getD (l - pos).toNat []).length : Int) = (ln : Int) := by rw [hk, Int.toNat_natCast, hln]
        show Calls _ _ _ _ fun e w' => e = .returned (ansV (some ⟨l, min cc ((now.getD (l - pos).toNat []).length : Int)⟩)) ∧ _
        rw [hlen]
        have hkn : k < nn := by omega
        have hk0 : (0 : Int) ≤ l - pos := by omega
        have hkt : (l - pos).toNat = k := by omega
        clear hlen hln hon hnn hn
        go_enter Try.func10, Try.ntmps10
        go_wp2
        go_region
        all_goals go_wp2
        all_goals (refine bodyPost_ret (v := .tuple #[.agg #[.int .i64 l, .int .i64 (min cc (ln : Int))], .bool true]) ?_ rfl ⟨rfl, by first | exact hbb _ _ _ | exact (hbb _ _ _).drew⟩)
        all_goals (rw [results_ct rfl]; go_simp; try omega)
end Go.Proofs.Ytbgbhlnidabhnaa.U
