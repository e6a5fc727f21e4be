/-
  The document's marks in memory; Names, Get.
-/
import Derived.Test.YtbgbhlnidabhnaaMAdjN
namespace Go.Proofs.Ytbgbhlnidabhnaa.U
open Go.RowKit
set_option linter.unusedVariables false
set_option linter.unusedSimpArgs false
set_option maxRecDepth 100000

def mcell (x : Int × Po) : List Value := [.int .i32 x.1, .int .i64 x.2.l, .int .i64 x.2.c]
def mcells (ns : List (Int × Po)) : List Value := ns.flatMap mcell
theorem mc_cons (x : Int × Po) (ns : List (Int × Po)) : mcells (x :: ns) = mcell x ++ mcells ns := by simp [mcells]
theorem mc_append (a b : List (Int × Po)) : mcells (a ++ b) = mcells a ++ mcells b := by simp [mcells]
theorem mc_one (x : Int × Po) : mcells [x] = mcell x := by simp [mcells]
theorem mc_len (ns : List (Int × Po)) : (mcells ns).length = ns.length * 3 := by
  induction ns with
  | nil => rfl
  | cons x r ih => rw [mc_cons, List.length_append, ih]; simp [mcell]; omega
theorem mc_drop : ∀ (ns : List (Int × Po)) (i : Nat), (mcells ns).drop (i * 3) = mcells (ns.drop i)
  | ns, 0 => by simp
  | [], i + 1 => by simp [mcells]
  | x :: r, i + 1 => by
    rw [mc_cons, List.drop_succ_cons, show (i + 1) * 3 = (mcell x).length + i * 3 from by simp [mcell]; omega, List.drop_length_add_append, mc_drop r i]
theorem mc_at (ns : List (Int × Po)) (i j : Nat) (x : Int × Po) (hx : ns[i]? = some x) (hj : j < 3) : (mcells ns)[i * 3 + j]? = (mcell x)[j]? := by
  have h : (mcells ns).drop (i * 3) = mcell x ++ mcells (ns.drop (i + 1)) := by
    rw [mc_drop]
    have hi := (List.getElem?_eq_some_iff.1 hx).1
    rw [List.drop_eq_getElem_cons hi, mc_cons, (List.getElem?_eq_some_iff.1 hx).2]
  rw [← List.getElem?_drop, h, List.getElem?_append_left (by simp [mcell]; omega)]
theorem mc_one1 (ns : List (Int × Po)) : ∀ u ∈ mcells ns, u.oneCell' = true := by
  intro u hu
  obtain ⟨x, _, hx⟩ := List.mem_flatMap.1 hu
  simp [mcell] at hx
  rcases hx with rfl | rfl | rfl <;> rfl
def mk0 : Int × Po := (0, po0)
theorem Rc.mk {w W : World} {a : Option Addr} {n c i : Nat} {ns : List (Int × Po)} (h : Rc w a n c 3 (mcells ns)) (hb : Below w.heap.size w W) (hi : i < n) :
    ∃ b off, a = some ⟨b, off, none⟩ ∧ b < w.heap.size ∧ ns.length = n ∧ W.cell? ⟨b, off + i * 3, none⟩ = some (.int .i32 (ns.getD i mk0).1) ∧ W.cell? ⟨b, off + i * 3 + 1, none⟩ = some (.int .i64 (ns.getD i mk0).2.l) ∧ W.cell? ⟨b, off + i * 3 + 2, none⟩ = some (.int .i64 (ns.getD i mk0).2.c) := by
  have hl := h.1
  rw [mc_len] at hl
  have hl : ns.length = n := by omega
  obtain ⟨b, off, rfl, hbl, hc⟩ := h.at_ (by omega)
  have hp : ns[i]? = some (ns.getD i mk0) := by rw [List.getD_eq_getElem?_getD, List.getElem?_eq_getElem (by omega)]; rfl
  have c0 := hc (i * 3) _ (by simpa [mcell] using mc_at ns i 0 _ hp (by omega))
  have c1 := hc (i * 3 + 1) _ (by simpa [mcell] using mc_at ns i 1 _ hp (by omega))
  have c2 := hc (i * 3 + 2) _ (by simpa [mcell] using mc_at ns i 2 _ hp (by omega))
  rw [← Nat.add_assoc] at c1 c2
  exact ⟨b, off, rfl, hbl, hl, (hb.cell (p := ⟨b, off + i * 3, none⟩) hbl).trans c0, (hb.cell (p := ⟨b, off + i * 3 + 1, none⟩) hbl).trans c1, (hb.cell (p := ⟨b, off + i * 3 + 2, none⟩) hbl).trans c2⟩

/-- the document's marks in memory; P: all their blocks -/
def RkS (P : Nat → Prop) (w : World) (bx : Nat) (s : Ms) : Prop :=
  ∃ (na : Option Addr) (nc : Nat) (ja : Option Addr) (jc : Nat),
    w.heap[bx]? = some (.cells #[.slice na s.ns.length nc, .slice ja s.js.length jc, .int .i64 (s.ix : Nat)] 39 (0, 0)) ∧
    Rc w na s.ns.length nc 3 (mcells s.ns) ∧ InF (fun k => P k ∧ k ≠ bx) na s.ns.length ∧ Rc w ja s.js.length jc 2 (fl s.js) ∧ InF (fun k => P k ∧ k ≠ bx) ja s.js.length ∧ P bx ∧ (∀ k, P k → k < w.heap.size)
/-- what a call leaves -/
def AfR (P : Nat → Prop) (w w' : World) (bx : Nat) (s : Ms) : Prop := ∃ P', RkS P' w' bx s ∧ Fr P w w' ∧ ∀ k, P' k → P k ∨ w.heap.size ≤ k
section
variable {P Q : Nat → Prop} {w w' : World} {bx : Nat} {s : Ms}
theorem RkS.lt (h : RkS P w bx s) : ∀ k, P k → k < w.heap.size := by obtain ⟨_, _, _, _, _, _, _, _, _, _, h⟩ := h; exact h
theorem RkS.fr {F : Nat → Prop} (h : RkS P w bx s) (hf : Fr F w w') (hd : ∀ k, P k → ¬ F k) : RkS P w' bx s := by
  obtain ⟨na, nc, ja, jc, h1, h2, h3, h4, h5, p1, p2⟩ := h
  exact ⟨na, nc, ja, jc, (hf.block bx (heap_lt h1) (hd bx p1)).trans h1, h2.frF h3 hf (fun k hk => hd k hk.1), h3, h4.frF h5 hf (fun k hk => hd k hk.1), h5, p1, fun k hk => Nat.lt_of_lt_of_le (p2 k hk) hf.size⟩
theorem RkS.below (h : RkS P w bx s) (hb : Below w.heap.size w w') : RkS P w' bx s := h.fr (Fr.of_below (fun _ => False) hb) (fun _ _ h => h)
theorem RkS.same (h : RkS P w bx s) (hb : Below w.heap.size w w') : AfR P w w' bx s := ⟨P, h.below hb, Fr.of_below P hb, fun k hk => .inl hk⟩
end

set_option maxHeartbeats 1000000 in
theorem rnames_any {P : Nat → Prop} {bx : Nat} {s : Ms} {B : Int} (w : World) (h : RkS P w bx s) (hok : s.ok B) :
    Calls Try.prog 28 #[.pointer (some ⟨bx, 0, none⟩)] w fun e w' => ∃ (a : Option Addr) (n c : Nat), e = .returned (.slice a n c) ∧ Hid (Rd .i32 w' a n c (s.ns.map (·.1)) ∧ Below w.heap.size w w') := by
  obtain ⟨na, nc, ja, jc, h1, h2, h3, h4, h5, p1, p2⟩ := h
  have hlen := names_len (sorted_nodup hok.sorted) (fun x hx => by
    obtain ⟨y, hy, e⟩ := List.mem_map.1 hx
    rw [← e]
    exact hok.names y hy)
  have hwf : ∀ x ∈ s.ns.map (·.1), (Lit.int .i32 x).wf = true := fun x hx => by
    obtain ⟨y, hy, e⟩ := List.mem_map.1 hx
    rw [← e]
    exact nameB_wf (hok.names y hy)
  have e0 : w.cell? ⟨bx, 0, none⟩ = some (.slice na s.ns.length nc) := by rw [cell_row h1]; rfl
  have hbl := heap_lt h1
  obtain ⟨ns, hns⟩ : ∃ ns, s.ns = ns := ⟨_, rfl⟩
  obtain ⟨n, hn⟩ : ∃ n, ns.length = n := ⟨_, rfl⟩
  rw [hns] at h2 e0 hlen hwf ⊢
  rw [hn] at h2 e0
  have hn50 : n < 50 := by rw [List.length_map] at hlen; omega
  have HR := Lib.hid (And.intro h2 (And.intro hn hwf))
  clear h1 h2 h3 h4 h5 p1 p2 hlen hwf hn hns
  go_enter Try.func28, Try.ntmps28
  go_wp2
  go_loopw [3, 4] (fun v iv wr => ∃ (a : Option Addr) (c i : Nat), v = .slice a i c ∧ iv = .int .i64 i ∧ i ≤ n ∧ Hid (Below w.heap.size w wr ∧ wr.ownsRow w.heap.size 21 1 (.slice a i c) i (ints ((ns.take i).map (·.1))))) (fun _ iv _ => n - (intOf iv).toNat)
  case atStart => exact ⟨none, 0, 0, rfl, rfl, Nat.zero_le _, Below.refl _ _, World.ownsRow_nil _ _ _ _⟩
  case round =>
    obtain ⟨a, c, i, rfl, rfl, hin, HS⟩ := hrel
    have f0 := (HS.out.1.cell (p := ⟨bx, 0, none⟩) hbl).trans e0
    by_cases hlt : i < n
    · obtain ⟨b, off, rfl, hb, hl, c0, _, _⟩ := HR.out.1.mk HS.out.1 hlt
      obtain ⟨x, hx⟩ : ∃ x, (ns.getD i mk0).1 = x := ⟨_, rfl⟩
      rw [hx] at c0
      have hgx : ns[i]? = some (ns.getD i mk0) := by rw [List.getD_eq_getElem?_getD, List.getElem?_eq_getElem (by omega)]; rfl
      have hxw : (Lit.int .i32 x).wf = true := HR.out.2.2 x (by rw [← hx]; exact List.mem_map.2 ⟨_, List.mem_of_getElem? hgx, rfl⟩)
      have htk : ((ns.take (i + 1)).map (·.1)) = ((ns.take i).map (·.1)) ++ [x] := by rw [take_snoc hgx, List.map_append, ← hx]; rfl
      have hb2 : Below wr.heap.size wr (wr.alloc (.cells #[.int .i32 x] 21)) := (Below.refl _ _).alloc (Nat.le_refl _) _
      obtain ⟨a', c', w3, hrun, hown3, hb3⟩ := app_rd (wr.alloc (.cells #[.int .i32 x] 21)) w.heap.size (.slice a i c) i ((ns.take i).map (·.1)) (some ⟨wr.heap.size, 0, none⟩) 1 1 [x] (HS.out.2.alloc _) (by have := HS.out.1.size; simp; omega) (Rd_new .i32 wr [x] #[.int .i32 x] 21 1 rfl rfl (by decide) (fun y hy => by rw [List.mem_singleton.1 hy]; exact hxw)) (by omega)
      have HRUN := Lib.hid hrun
      have HN : Hid (Below w.heap.size w w3 ∧ w3.ownsRow w.heap.size 21 1 (.slice a' (i + 1) c') (i + 1) (ints ((ns.take (i + 1)).map (·.1)))) := by
        refine ⟨(HS.out.1.trans (hb2.mono HS.out.1.size)).trans hb3, ?_⟩
        rw [htk]
        exact hown3
      clear hrun hown3 hb3 hb2 htk hxw hgx hx hl
      go_wp2_with (at_builtin; go_must (with_reducible refine Lib.wpList_append_run _ rfl _ _ _ _ rfl _ _ rfl rfl _ _ (HRUN.out _) ?_))
      go_roundw
      case rel => exact ⟨a', c', i + 1, rfl, by go_num, by omega, HN⟩
      case measure => simp [intOf]; omega
    · obtain rfl : i = n := by omega
      go_wp2
      go_ret
      refine ⟨a, i, c, rfl, ?_⟩
      have hown := HS.out.2
      rw [List.take_of_length_le (by rw [HR.out.2.1]; omega)] at hown
      exact ⟨Rd.own hown HR.out.2.2, HS.out.1⟩
end Go.Proofs.Ytbgbhlnidabhnaa.U
