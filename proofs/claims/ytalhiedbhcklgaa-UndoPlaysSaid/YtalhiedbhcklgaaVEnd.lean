/-
  The contracts of Len, At, Begin, grow, End.
-/
import Derived.Test.YtalhiedbhcklgaaVGrow
import Derived.Defers
namespace Go.Proofs.Ytalhiedbhcklgaa.U
open Go.RowKit
set_option linter.unusedVariables false
set_option linter.unusedSimpArgs false
set_option maxRecDepth 100000

theorem len_cell (bt m n nc : Nat) (na : Option Addr) (w : World) (hc : w.cell? ⟨bt, 0, none⟩ = some (.slice na m nc)) (hl : bt < w.heap.size) (hm : m = n + 1) (hn : n ≤ 1048576) :
    Calls Try.prog 34 #[.pointer (some ⟨bt, 0, none⟩)] w fun e w' => e = .returned (.int .i64 (n : Nat)) ∧ w = w' := by
  have hm2 : (m : Int) ≤ 1048577 := by omega
  have hm3 : (1 : Int) ≤ (m : Int) := by omega
  have hm4 : (m : Int) - 1 = (n : Int) := by omega
  have HM := Lib.hid hm4
  clear hm hm4
  go_enter Try.func34, Try.ntmps34
  go_wp2_with fail
  go_ret
  exact ⟨ret_int HM.out, rfl⟩
theorem lenT_any {P F : Nat → Prop} {w : World} {bt : Nat} {t : Tr} (h : TreeC P F w bt t) :
    Calls Try.prog 34 #[.pointer (some ⟨bt, 0, none⟩)] w fun e w' => e = .returned (.int .i64 (t.nodes.length : Nat)) ∧ w = w' := by
  obtain ⟨na, nc, ga, gc, c0, _, _, _, _, _, _, _, hl⟩ := h.cells
  exact len_cell bt _ _ nc na w c0 hl rfl (by have := h.ok.1; omega)
theorem lenT_nil (w : World) : Calls Try.prog 34 #[.pointer none] w fun e w' => e = .returned (.int .i64 0) ∧ w = w' := by
  go_enter Try.func34, Try.ntmps34
  go_wp2_with fail
  go_ret
  exact ⟨rfl, rfl⟩
theorem at_any {P F : Nat → Prop} {w : World} {bt : Nat} {t : Tr} (h : TreeC P F w bt t) :
    Calls Try.prog 35 #[.pointer (some ⟨bt, 0, none⟩)] w fun e w' => e = .returned (.int .i64 (t.here : Nat)) ∧ w = w' := by
  obtain ⟨na, nc, ga, gc, _, c1, _, _, _, _, _, _, hl⟩ := h.cells
  clear h
  go_enter Try.func35, Try.ntmps35
  go_wp2_with fail
  go_ret
  exact ⟨rfl, rfl⟩
theorem at_nil (w : World) : Calls Try.prog 35 #[.pointer none] w fun e w' => e = .returned (.int .i64 0) ∧ w = w' := by
  go_enter Try.func35, Try.ntmps35
  go_wp2_with fail
  go_ret
  exact ⟨rfl, rfl⟩
theorem begin_any {P F : Nat → Prop} {w : World} {bt : Nat} {t : Tr} (h : TreeC P F w bt t) :
    Calls Try.prog 23 #[.pointer (some ⟨bt, 0, none⟩)] w fun e w' => e = .returned (.tuple #[]) ∧ w' = w.setCell ⟨bt, 2, none⟩ (.bool true) ∧ TreeC P F w' bt t.begin_ ∧ Fr P w w' := by
  obtain ⟨na, nc, ga, gc, _, _, c2, _, _, _, z2, _, hl⟩ := h.cells
  have HF : Hid (TreeC P F (w.setCell ⟨bt, 2, none⟩ (.bool true)) bt t.begin_ ∧ Fr P w (w.setCell ⟨bt, 2, none⟩ (.bool true))) := ⟨h.setOpen true, (Fr.refl _ w).setCell ⟨bt, 2, none⟩ (.bool true) (fun _ => h.inP)⟩
  clear h
  go_enter Try.func23, Try.ntmps23
  go_wp2_with fail
  go_end0
  exact ⟨rfl, rfl, HF.out.1, HF.out.2⟩
theorem begin_nil (w : World) : Calls Try.prog 23 #[.pointer none] w fun e w' => e = .returned (.tuple #[]) ∧ w = w' := by
  go_enter Try.func23, Try.ntmps23
  go_wp2_with fail
  go_end0
  exact ⟨rfl, rfl⟩

end Go.Proofs.Ytalhiedbhcklgaa.U
