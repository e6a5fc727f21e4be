/-
  The document's blocks.
-/
import Derived.Test.YthlhgkeodaifcaaDoorBWords
import Derived.Test.YthlhgkeodaifcaaDoorBBlock
namespace Go.Proofs.YthlhgkeodaifcaaDoor.U
open Go.RowKit
set_option linter.unusedVariables false
set_option linter.unusedSimpArgs false
set_option maxRecDepth 100000
set_option maxHeartbeats 2000000 in
theorem rblocks_any (F : Nat → Prop) (a : Option Addr) (n c : Nat) (L : List (List Int)) (i : Nat) (around : Bool) (w : World) (h : RdL F w a n c L) (hi0 : i < n) :
    Calls Tryd.prog 22 #[.slice a n c, .int .i64 (i : Nat), .bool around] w fun e w' => e = .returned (woV (blocksP L i around)) ∧ Below w.heap.size w w' := by
  have hl := h.len
  have hsm := h.small
  obtain ⟨res, hres⟩ : ∃ r, blocksP L i around = r := ⟨_, rfl⟩
  rw [hres]
  unfold blocksP at hres
  rw [hl] at hres
  obtain ⟨b1, b2, b3, -⟩ := block_props (L := L) (i := i) (by omega)
  have HR0 := Lib.hid (rblock_any F a n c L i w h hi0)
  obtain ⟨⟨lo, hi⟩, hrn⟩ : ∃ r, blockC L i = r := ⟨_, rfl⟩
  rw [hrn] at HR0 hres b1 b2 b3
  simp only at HR0 hres b1 b2 b3
  rw [hl] at b3
  cases around with
  | false =>
    rw [if_pos rfl] at hres
    subst hres
    clear h hrn hl
    go_enter Tryd.func22, Tryd.ntmps22
    go_wp2_with (go_at_call 33; refine HR0.out.mono ?_; rintro e w2 ⟨rfl, hb2⟩)
    go_ret3
    exact ⟨rfl, hb2⟩
  | true =>
    rw [if_neg (by decide)] at hres
    have hhI : (hi : Int) + 1 ≤ 9223372036854775807 := by omega
    by_cases hh : hi + 1 < n
    · rw [if_pos hh] at hres
      obtain ⟨n1, hn1⟩ : ∃ n1, hi + 1 = n1 := ⟨_, rfl⟩
      rw [hn1] at hres hh
      have s1 : (hi : Int) + 1 = (n1 : Int) := by omega
      have g1 : (n1 : Int) < (n : Int) := by omega
      have g2 : decide ((n1 : Int) < (n : Int)) = true := by simp; omega
      have g3 : decide (n1 < n) = true := by simp; omega
      have HR1 := Lib.hid (fun (W : World) (hW : Below w.heap.size w W) => rblock_any F a n c L n1 W (h.below hW) hh)
      obtain ⟨⟨lo2, hi2⟩, hrn1⟩ : ∃ r, blockC L n1 = r := ⟨_, rfl⟩
      rw [hrn1] at HR1 hres
      simp only at HR1 hres
      subst hres
      clear h hrn hl hrn1 hn1
      go_enter Tryd.func22, Tryd.ntmps22
      go_wp2_with (first
        | (go_at_call 33; with_reducible refine HR0.out.mono ?_; rintro e w2 ⟨rfl, hb2⟩)
        | (go_at_call 33; with_reducible refine (HR1.out _ hb2).mono ?_; rintro e w3 ⟨rfl, hb3⟩))
      go_ret3
      exact ⟨rfl, btr hb2 hb3⟩
    · rw [if_neg hh] at hres
      have g1 : ¬ (hi : Int) + 1 < (n : Int) := by omega
      have g2 : decide ((hi : Int) + 1 < (n : Int)) = false := by simp; omega
      have g3 : decide (hi + 1 < n) = false := by simp; omega
      have HLN : Hid (∀ W' : World, Below w.heap.size w W' → ∃ b off ra rc, a = some ⟨b, off, none⟩ ∧ W'.cell? ⟨b, off + i, none⟩ = some (.slice ra (lnL L i).length rc) ∧ (lnL L i).length ≤ 9223372036854775807) := by
        intro W' hW
        obtain ⟨b', off', ra, rc, e1, _, _, e4, e5⟩ := okP.line (p := (i, 0)) h ⟨by simp only; omega, by simp⟩ hW
        exact ⟨b', off', ra, rc, e1, e4, e5.small⟩
      obtain ⟨m0, hm0'⟩ : ∃ m0, (lnL L i).length = m0 := ⟨_, rfl⟩
      rw [hm0'] at HLN
      have hiI : (i : Int) < (n : Int) := by omega
      by_cases hz : m0 = 0
      · have e0 : ((m0 : Int) == 0) = true := by simp; omega
        have hem : empL L i = 1 := by unfold empL; rw [hm0', if_pos hz]
        rw [if_pos hem] at hres
        subst hres
        clear h hrn hl hm0' hem hz
        go_enter Tryd.func22, Tryd.ntmps22
        go_wp2_with (go_at_call 33; refine HR0.out.mono ?_; rintro e w2 ⟨rfl, hb2⟩; obtain ⟨b', off', ra, rc, rfl, e4, e5⟩ := HLN.out w2 hb2)
        go_ret3
        exact ⟨rfl, hb2⟩
      · have e0 : ((m0 : Int) == 0) = false := by simp; omega
        have hem : ¬ empL L i = 1 := by unfold empL; rw [hm0', if_neg hz]; decide
        rw [if_neg hem] at hres
        by_cases hl0 : 0 < lo
        · rw [if_pos hl0] at hres
          have l1 : (0 : Int) < (lo : Int) := by omega
          have l2 : decide ((0 : Int) < (lo : Int)) = true := by simp; omega
          have l3 : decide (0 < lo) = true := by simp; omega
          obtain ⟨p1, hp1⟩ : ∃ p1, lo - 1 = p1 := ⟨_, rfl⟩
          rw [hp1] at hres
          have s2 : (lo : Int) - 1 = (p1 : Int) := by omega
          have HR2 := Lib.hid (fun (W : World) (hW : Below w.heap.size w W) => rblock_any F a n c L p1 W (h.below hW) (by omega))
          obtain ⟨⟨lo3, hi3⟩, hrn2⟩ : ∃ r, blockC L p1 = r := ⟨_, rfl⟩
          rw [hrn2] at HR2 hres
          simp only at HR2 hres
          subst hres
          clear h hrn hl hm0' hem hz hrn2 hp1
          go_enter Tryd.func22, Tryd.ntmps22
          go_wp2_with (first
            | (go_at_call 33; with_reducible refine HR0.out.mono ?_; rintro e w2 ⟨rfl, hb2⟩; obtain ⟨b', off', ra, rc, rfl, e4, e5⟩ := HLN.out w2 hb2)
            | (go_at_call 33; with_reducible refine (HR2.out _ hb2).mono ?_; rintro e w3 ⟨rfl, hb3⟩))
          go_ret3
          exact ⟨rfl, btr hb2 hb3⟩
        · rw [if_neg hl0] at hres
          have l1 : ¬ (0 : Int) < (lo : Int) := by omega
          have l2 : decide ((0 : Int) < (lo : Int)) = false := by simp; omega
          have l3 : decide (0 < lo) = false := by simp; omega
          subst hres
          clear h hrn hl hm0' hem hz hl0
          go_enter Tryd.func22, Tryd.ntmps22
          go_wp2_with (go_at_call 33; refine HR0.out.mono ?_; rintro e w2 ⟨rfl, hb2⟩; obtain ⟨b', off', ra, rc, rfl, e4, e5⟩ := HLN.out w2 hb2)
          go_ret3
          exact ⟨rfl, hb2⟩
end Go.Proofs.YthlhgkeodaifcaaDoor.U
