/-
  The program's reader: what is next, what is taken, whether an alternative has ended.
-/
import Derived.Test.YtkjiobbkbhmijaaRLeaf
namespace Go.Proofs.Ytkjiobbkbhmijaa.U
open Go.RowKit
set_option linter.unusedVariables false
set_option linter.unusedSimpArgs false
set_option maxRecDepth 100000

theorem sees_any (br : Nat) (p l s : List Int) (n o m c2 : Nat) (a2 : Option Addr) (w : World) (h : RdS w br p l n o) (h2 : Rd .i32 w a2 m c2 s) :
    Calls Try.prog 45 #[.pointer (some ⟨br, 0, none⟩), .slice a2 m c2] w fun e w' => e = .returned (.bool (pre s l)) ∧ Below w.heap.size w w' := by
  obtain ⟨a, cap, i, e0, e1, e2, e3, fz, hr, hin, hd, hi, hn, hp, ho⟩ := h.cells
  have hcap := hr.2.1
  have hmax := hr.2.2.1
  have hsm := hr.small
  have hsm2 := h2.small
  have hls := h2.1
  have hll : l.length = p.length - i := by rw [hd]; simp
  have hrd := hr.drop i hi
  rw [← hd] at hrd
  obtain ⟨q, hq⟩ : ∃ q, p.length = q := ⟨_, rfl⟩
  rw [hq] at e0 hrd hi hcap hll hsm
  obtain ⟨k, hk⟩ : ∃ k, q - i = k := ⟨_, rfl⟩
  rw [hk] at hrd hll
  obtain ⟨ck, hck⟩ : ∃ ck, cap - i = ck := ⟨_, rfl⟩
  rw [hck] at hrd
  have hiq : (i : Int) ≤ (q : Int) := by omega
  have hqc : (q : Int) ≤ (cap : Int) := by omega
  have hkc : k ≤ ck := by omega
  have HP := Lib.hid (pre_eq s l)
  rw [hls, hll] at HP
  unfold maxLen at hmax
  have H2 := Lib.hid h2
  have HRD := Lib.hid hrd
  clear h hr hin hd fz h2 hls hll hrd hp ho hn
  have HQ := Lib.hid hq
  have HK := Lib.hid hk
  have HCK := Lib.hid hck
  by_cases hle : m ≤ k
  · have hdg : decide ((m : Int) ≤ (k : Int)) = true := by simpa using hle
    have hdn : decide (m ≤ k) = true := by simpa using hle
    have hkm : (m : Int) ≤ (k : Int) := by omega
    have hmc : (m : Int) ≤ (ck : Int) := by omega
    clear hq
    go_enter Try.func45, Try.ntmps45
    go_wp2
    go_quiet (fail)
    have HRD2 : Hid (Rd .i32 w (if cap = i then a else a.map (fun x => x.add i)) k ck l) := by have := HRD.out; rwa [Nat.mul_one] at this
    generalize (if cap = i then a else Option.map (fun x => x.add i) a) = ar at HRD2 ⊢
    clear HRD hk hck
    go_wp2_with (go_at_call 53; refine (equal_any _ _ _ _ _ _ (l.take m) s _ ((HRD2.out.take m hle).below (bdrewN (Below.refl _ _) _)) (H2.out.below (bdrewN (Below.refl _ _) _))).mono ?_; rintro e w1 ⟨rfl, hb1⟩)
    go_ret
    refine ⟨?_, (bdrewN (Below.refl _ w) _).trans hb1⟩
    rw [HP.out, hdn]
    simp
  · have hdg : decide ((m : Int) ≤ (k : Int)) = false := by simp; omega
    have hdn : decide (m ≤ k) = false := by simp; omega
    have hkm : ¬ (m : Int) ≤ (k : Int) := by omega
    clear hq
    go_enter Try.func45, Try.ntmps45
    go_wp2
    go_quiet (fail)
    generalize (if cap = i then a else Option.map (fun x => x.add i) a) = ar
    clear HRD hk hck
    go_wp2
    go_ret
    refine ⟨?_, (bdrewN (Below.refl _ w) _)⟩
    rw [HP.out, hdn]
    simp

theorem took_no (br : Nat) (p l s : List Int) (n o m c2 : Nat) (a2 : Option Addr) (w : World) (h : RdS w br p l n o) (h2 : Rd .i32 w a2 m c2 s) (hf : pre s l = false) :
    Calls Try.prog 33 #[.pointer (some ⟨br, 0, none⟩), .slice a2 m c2] w fun e w' => e = .returned (.bool false) ∧ Below w.heap.size w w' := by
  have H := Lib.hid h
  have H2 := Lib.hid h2
  clear h h2
  go_enter Try.func33, Try.ntmps33
  go_wp2_with (go_at_call 45; refine (sees_any br p l s n o m c2 a2 _ H.out H2.out).mono ?_; rw [hf]; rintro e w1 ⟨rfl, hb1⟩)
  go_ret
  exact ⟨rfl, hb1⟩
theorem took_yes (br : Nat) (p l s : List Int) (n o m c2 : Nat) (a2 : Option Addr) (w : World) (h : RdS w br p l n o) (h2 : Rd .i32 w a2 m c2 s) (hf : pre s l = true) :
    Calls Try.prog 33 #[.pointer (some ⟨br, 0, none⟩), .slice a2 m c2] w fun e w' => e = .returned (.bool true) ∧ RdS w' br p (l.drop m) n o ∧ Fr (· = br) w w' := by
  have hlt := h.lt
  have hms := pre_len hf
  have hls := h2.1
  have hsm2 := h2.small
  have hlp := h.len
  obtain ⟨a, cap, i, e0, e1, e2, e3, fz, hr, hin, hd, hi, hn, hp, ho⟩ := h.cells
  have hs : ∀ W : World, Below w.heap.size w W → W.cell? ⟨br, 1, none⟩ = some (.int .i64 (i : Nat)) ∧ W.frozen? ⟨br, 1, none⟩ = false ∧ Hid (RdS (W.setCell ⟨br, 1, none⟩ (.int .i64 ((i + m : Nat) : Int))) br p (l.drop m) n o ∧ Fr (· = br) w (W.setCell ⟨br, 1, none⟩ (.int .i64 ((i + m : Nat) : Int)))) := by
    intro W hW
    have hW1 := h.below hW
    obtain ⟨a', cap', i', e0', e1', e2', e3', fz', _⟩ := hW1.cells
    exact ⟨(hW.cell (p := ⟨br, 1, none⟩) hlt).trans e1, fz' 1, h.setAt hW m (by omega) e1 rfl⟩
  obtain ⟨k, hk⟩ : ∃ k, i + m = k := ⟨_, rfl⟩
  rw [hk] at hs
  have hkm : (i : Int) + (m : Int) = (k : Int) := by omega
  have hk2 : k ≤ 1000000 := by
    have : l.length = p.length - i := by rw [hd]; simp
    omega
  have H := Lib.hid h
  have H2 := Lib.hid h2
  clear h h2 hr hin hd fz hk e0 e1 e2 e3 hp ho hn hi hms hls hlp
  go_enter Try.func33, Try.ntmps33
  go_wp2_with (go_at_call 45; refine (sees_any br p l s n o m c2 a2 _ H.out H2.out).mono ?_; rw [hf]; rintro e w1 ⟨rfl, hb1⟩; obtain ⟨e1, f1, HS⟩ := hs w1 hb1; clear hs)
  go_ret
  exact ⟨rfl, HS.out.1, HS.out.2⟩

/-- runes that have just been laid -/
theorem rd_lit (w : World) (s : List Int) (cs : Array Value) (n : Nat) (hc : cs = (s.map (Value.int .i32)).toArray) (hn : s.length = n) (hm : n ≤ 10) (hw : ∀ x ∈ s, (Lit.int .i32 x).wf = true) :
    Rd .i32 (w.alloc (.cells cs 21)) (some ⟨w.heap.size, 0, none⟩) n n s := Rd_new .i32 w s cs _ n hc hn (by unfold maxLen; omega) hw
end Go.Proofs.Ytkjiobbkbhmijaa.U
