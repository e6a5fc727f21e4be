/-
  Cut: how large what is left is; the program's closure; its boxes.
-/
import Derived.Test.YtfldjoiohejilaaKTake
import Derived.Deep.RegionHeld3
namespace Go.Proofs.Ytfldjoiohejilaa.U
open Go.RowKit
set_option linter.unusedVariables false
set_option linter.unusedSimpArgs false
set_option maxRecDepth 100000

theorem out_le (L : List (List Int)) (k : Int) (p q : Pl) (i : Nat) : (outL L k p q i).length ≤ (lnL L i).length := partOut_len _ _ _ _ _ _
theorem outs_size (L : List (List Int)) (k : Int) (p q : Pl) (a : Nat) : ∀ m, a + m ≤ L.length → sizeN (lens (outsL L k p q a m)) ≤ sizeN (lens ((L.drop a).take m))
  | 0, _ => by simp [outsL]
  | m + 1, h => by
    have ih := outs_size L k p q a m (by omega)
    have hx : (L.drop a)[m]? = some L[a + m] := by rw [List.getElem?_drop, List.getElem?_eq_getElem (by omega)]
    have hl : lnL L (a + m) = L[a + m] := by unfold lnL; rw [List.getD_eq_getElem?_getD, List.getElem?_eq_getElem (by omega)]; rfl
    have ho := out_le L k p q (a + m)
    rw [hl] at ho
    rw [outsL_succ, lens_append, sizeN_append, size_take hx]
    simp only [lens, List.map_cons, List.map_nil, sizeN_cons, sizeN_nil] at ih ⊢
    omega
theorem size_parts (L : List (List Int)) (a m : Nat) : sizeN (lens L) = sizeN (lens (L.take a)) + (sizeN (lens ((L.drop a).take m)) + sizeN (lens (L.drop (a + m)))) := by
  have h1 : lens L = lens (L.take a) ++ (lens ((L.drop a).take m) ++ lens (L.drop (a + m))) := by
    rw [← lens_append, ← lens_append]
    congr 1
    rw [← List.drop_drop, List.take_append_drop, List.take_append_drop]
  rw [h1, sizeN_append, sizeN_append]
theorem over_pos (p q : Pl) : 0 < overN p q := by
  have := endsR_le p q
  unfold overN; omega
theorem cutL_size {L : List (List Int)} {p q : Pl} (hp : okP L p) (hq : okP L q) (k : Int) : sizeN (lens (cutL L p q k)) ≤ sizeN (lens L) := by
  obtain ⟨hA, hB⟩ := endsR_ok hp hq
  have hle := endsR_le p q
  have hov := over_pos p q
  have ho : overN p q = (endsR p q).2.1 + 1 - (endsR p q).1.1 := rfl
  have he : (endsR p q).1.1 + overN p q = (endsR p q).2.1 + 1 := by omega
  have hs := size_parts L (endsR p q).1.1 (overN p q)
  have h1 := outs_size L k p q (endsR p q).1.1 (overN p q) (by have := hB.1; omega)
  rw [he] at hs
  unfold cutL
  rw [lens_append, lens_append, sizeN_append, sizeN_append, hs]
  have key : sizeN (lens (if k = 2 then outsL L k p q (endsR p q).1.1 (overN p q) else if k = 0 then [(outsL L k p q (endsR p q).1.1 (overN p q)).flatten] else [])) ≤ sizeN (lens ((L.drop (endsR p q).1.1).take (overN p q))) := by
    split
    · exact h1
    · split
      · have h2 := flat_len (outsL L k p q (endsR p q).1.1 (overN p q))
        rw [outsL_len] at h2
        simp only [lens, List.map_cons, List.map_nil, sizeN_cons, sizeN_nil] at h1 h2 ⊢
        omega
      · simp [lens, sizeN]
  omega
theorem cutM_size {L : List (List Int)} {p q : Pl} (hp : okP L p) (hq : okP L q) (k : Int) : sizeN (lens (cutM L p q k)) ≤ sizeN (lens L) := by
  unfold cutM
  split
  · have h1 := size_count L
    have h2 := hp.1
    have h3 : sizeN (lens ([[]] : List (List Int))) = 1 := rfl
    rw [h3]
    omega
  · exact cutL_size hp hq k
/-- what stands around a piece, as one row -/
theorem kcut1_any (xa : Option Addr) (m xc : Nat) (x : List Int) (fr to_ : Nat) (w : World) (h : Rd .i32 w xa m xc x) (h1 : fr ≤ to_) (h2 : to_ ≤ m) (hm : m ≤ 1048576) :
    Calls Try.prog 45 #[.slice xa m xc, .int .i64 (fr : Nat), .int .i64 (to_ : Nat)] w fun e w' => ∃ ra rc, e = .returned (.slice ra (fr + (m - to_)) rc) ∧ w'.ownsRow w.heap.size 21 1 (.slice ra (fr + (m - to_)) rc) (fr + (m - to_)) (ints (x.take fr ++ x.drop to_)) ∧ Below w.heap.size w w' := by
  have hmc : m ≤ xc ∧ xc ≤ 9223372036854775807 := by have := h.2.1; have := h.2.2.1; unfold maxLen at this; exact ⟨by omega, by omega⟩
  obtain ⟨hmc, hxc⟩ := hmc
  have H0 : Hid (Below w.heap.size w w) := Below.refl _ _
  by_cases hm0 : m = 0
  · subst hm0
    obtain rfl : to_ = 0 := by omega
    obtain rfl : fr = 0 := by omega
    have hx : x = [] := List.eq_nil_of_length_eq_zero h.1
    subst hx
    have hml := h.2.2.1
    have HC : Hid (∀ W (da db : Option Addr) (dc dd : Nat), (W = w.alloc (.cells #[.slice da 0 dc, .slice db 0 dd] 35) ∨ W = (w.alloc (.cells #[.slice da 0 dc, .slice db 0 dd] 35)).drew) → dc = xc → dd = xc → (da = none → xc = 0) → (db = none → xc = 0) → Calls Try.prog 46 #[.slice (some ⟨w.heap.size, 0, none⟩) 2 2] W fun e w' => ∃ ra rc, e = .returned (.slice ra 0 rc) ∧ Hid (w'.ownsRow w.heap.size 21 1 (.slice ra 0 rc) 0 (ints []) ∧ Below w.heap.size w w')) := by
      rintro W da db dc dd hW rfl rfl hda hdb
      exact (kcat2 w W da db 0 dd 0 dd [] [] (Rd.nil .i32 w da dd hml hda) (Rd.nil .i32 w db dd hml hdb) (by omega) hW).mono fun e w' ⟨ra, rc, h1, h2, h3⟩ => ⟨ra, rc, h1, h2, h3⟩
    have hna := h.2.2.2.2.1
    clear h hml
    have h00 : (([] : List Int).take 0) ++ ([] : List Int).drop 0 = [] := rfl
    rw [h00]
    simp only [Nat.sub_self, Nat.add_zero]
    cases xa with
    | none =>
      obtain rfl : xc = 0 := hna rfl
      go_enter Try.func45, Try.ntmps45
      go_upto_region 1 with fail
      go_region_held3 (fun W => Below w.heap.size w W)
        (first | exact H0.out | exact H0.out.drew | exact H0.out.alloc H0.out.size _ | exact (H0.out.alloc H0.out.size _).drew | exact (H0.out.drew.alloc H0.out.drew.size _) | exact HF.out.2 | exact HF.out.2.drew)
        (first
          | (go_at_call 46; (first | refine (HC.out _ _ _ _ _ (Or.inl rfl) (by first | rfl | omega) (by first | rfl | omega) (by intros; first | rfl | omega) (by intros; first | rfl | omega)).mono ?_ | refine (HC.out _ _ _ _ _ (Or.inr rfl) (by first | rfl | omega) (by first | rfl | omega) (by intros; first | rfl | omega) (by intros; first | rfl | omega)).mono ?_); rintro e w3 ⟨ra, rc, rfl, HF⟩))
      all_goals
        go_wp2
        go_ret
        exact ⟨_, _, rfl, HF.out.1, HF.out.2⟩
    | some ad =>
      clear hna
      by_cases hc0 : xc = 0
      · subst hc0
        go_enter Try.func45, Try.ntmps45
        go_upto_region 1 with fail
        go_region_held3 (fun W => Below w.heap.size w W)
          (first | exact H0.out | exact H0.out.drew | exact H0.out.alloc H0.out.size _ | exact (H0.out.alloc H0.out.size _).drew | exact (H0.out.drew.alloc H0.out.drew.size _) | exact HF.out.2 | exact HF.out.2.drew)
          (first
            | (go_at_call 46; (first | refine (HC.out _ _ _ _ _ (Or.inl rfl) (by first | rfl | omega) (by first | rfl | omega) (by intros; first | rfl | omega) (by intros; first | rfl | omega)).mono ?_ | refine (HC.out _ _ _ _ _ (Or.inr rfl) (by first | rfl | omega) (by first | rfl | omega) (by intros; first | rfl | omega) (by intros; first | rfl | omega)).mono ?_); rintro e w3 ⟨ra, rc, rfl, HF⟩))
        all_goals
          go_wp2
          go_ret
          exact ⟨_, _, rfl, HF.out.1, HF.out.2⟩
      · go_enter Try.func45, Try.ntmps45
        go_upto_region 1 with fail
        go_region_held3 (fun W => Below w.heap.size w W)
          (first | exact H0.out | exact H0.out.drew | exact H0.out.alloc H0.out.size _ | exact (H0.out.alloc H0.out.size _).drew | exact (H0.out.drew.alloc H0.out.drew.size _) | exact HF.out.2 | exact HF.out.2.drew)
          (first
            | (go_at_call 46; (first | refine (HC.out _ _ _ _ _ (Or.inl rfl) (by first | rfl | omega) (by first | rfl | omega) (by intro hz; first | (cases hz; done) | (simp at hz)) (by intro hz; first | (cases hz; done) | (simp at hz))).mono ?_ | refine (HC.out _ _ _ _ _ (Or.inr rfl) (by first | rfl | omega) (by first | rfl | omega) (by intro hz; first | (cases hz; done) | (simp at hz)) (by intro hz; first | (cases hz; done) | (simp at hz))).mono ?_); rintro e w3 ⟨ra, rc, rfl, HF⟩))
        all_goals
          go_wp2
          go_ret
          exact ⟨_, _, rfl, HF.out.1, HF.out.2⟩
  · obtain ⟨xb, xo, rfl, hcx⟩ := h.2.2.2.2.2 (by omega)
    obtain ⟨da, hda⟩ : ∃ da, (if xc = to_ then some (⟨xb, xo, none⟩ : Addr) else (some (⟨xb, xo, none⟩ : Addr)).map (·.add (to_ * 1))) = da := ⟨_, rfl⟩
    have HC : Hid (∀ W, (W = w.alloc (.cells #[.slice (some ⟨xb, xo, none⟩) fr xc, .slice da (m - to_) (xc - to_)] 35) ∨ W = (w.alloc (.cells #[.slice (some ⟨xb, xo, none⟩) fr xc, .slice da (m - to_) (xc - to_)] 35)).drew) → Calls Try.prog 46 #[.slice (some ⟨w.heap.size, 0, none⟩) 2 2] W fun e w' => ∃ ra rc, e = .returned (.slice ra (fr + (m - to_)) rc) ∧ Hid (w'.ownsRow w.heap.size 21 1 (.slice ra (fr + (m - to_)) rc) (fr + (m - to_)) (ints (x.take fr ++ x.drop to_)) ∧ Below w.heap.size w w')) := by
      intro W hW
      have hd := h.drop to_ h2
      rw [hda] at hd
      exact (kcat2 w W _ _ fr xc (m - to_) (xc - to_) _ _ (h.take fr (by omega)) hd (by omega) hW).mono fun e w' ⟨ra, rc, h1, h2, h3⟩ => ⟨ra, rc, h1, h2, h3⟩
    have hfm : fr ≤ xc := by omega
    have htm : to_ ≤ xc := by omega
    clear hcx h
    by_cases hcf : xc = to_
    · rw [if_pos hcf] at hda
      subst hda
      obtain rfl : m = to_ := by omega
      subst hcf
      simp only [Nat.sub_self, Nat.add_zero] at HC ⊢
      go_enter Try.func45, Try.ntmps45
      go_upto_region 1 with fail
      go_region_held3 (fun W => Below w.heap.size w W)
        (first | exact H0.out | exact H0.out.drew | exact H0.out.alloc H0.out.size _ | exact (H0.out.alloc H0.out.size _).drew | exact (H0.out.drew.alloc H0.out.drew.size _) | exact HF.out.2 | exact HF.out.2.drew)
        (first
          | (go_at_call 46; (with_reducible first | refine (HC.out _ (Or.inl rfl)).mono ?_ | refine (HC.out _ (Or.inr rfl)).mono ?_); rintro e w3 ⟨ra, rc, rfl, HF⟩))
      all_goals
        go_wp2
        go_ret
        exact ⟨_, _, rfl, HF.out.1, HF.out.2⟩
    · rw [if_neg hcf] at hda
      simp only [Option.map_some, Nat.mul_one, add_lit] at hda
      subst hda
      go_enter Try.func45, Try.ntmps45
      go_upto_region 1 with fail
      go_region_held3 (fun W => Below w.heap.size w W)
        (first | exact H0.out | exact H0.out.drew | exact H0.out.alloc H0.out.size _ | exact (H0.out.alloc H0.out.size _).drew | exact (H0.out.drew.alloc H0.out.drew.size _) | exact HF.out.2 | exact HF.out.2.drew)
        (first
          | (go_at_call 46; (with_reducible first | refine (HC.out _ (Or.inl rfl)).mono ?_ | refine (HC.out _ (Or.inr rfl)).mono ?_); rintro e w3 ⟨ra, rc, rfl, HF⟩))
      all_goals
        go_wp2
        go_ret
        exact ⟨_, _, rfl, HF.out.1, HF.out.2⟩
/-- Cut's boxes: the place's at b + 1, the area at d -/
structure CvS (w : World) (b d : Nat) (cs : Array Value) (W : World) : Prop where
  hb : Below b w W
  z : W.heap[b + 1]? = some (.cells #[.int .i64 0, .int .i64 0] 24 (0, 0))
  ar : ArH d cs W
  bd : b + 1 < d
theorem CvS.below {w W W' : World} {b d : Nat} {cs : Array Value} (h : CvS w b d cs W) (hw : w.heap.size = b) (hb : Below W.heap.size W W') : CvS w b d cs W' :=
  ⟨h.hb.trans (hb.mono (by have := h.hb.size; omega)), (hb.block _ (heap_lt h.z)).trans h.z, h.ar.below hb, h.bd⟩
end Go.Proofs.Ytfldjoiohejilaa.U
