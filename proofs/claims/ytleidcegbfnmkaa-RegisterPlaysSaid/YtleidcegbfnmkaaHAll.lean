/-
  The program's All.
-/
import Derived.Test.YtleidcegbfnmkaaHGet
import Derived.Test.YtleidcegbfnmkaaGOut
import Derived.Lib.OthersKept
namespace Go.Proofs.Ytleidcegbfnmkaa.U
open Go.RowKit
set_option linter.unusedVariables false
set_option linter.unusedSimpArgs false
set_option maxRecDepth 100000

def namesB : ByteArray := ⟨#[34, 45, 48, 49, 50, 51, 52, 53, 54, 55, 56, 57, 97, 98, 99, 100, 101, 102, 103, 104, 105, 106, 107, 108, 109, 110, 111, 112, 113, 114, 115, 116, 117, 118, 119, 120, 121, 122]⟩
theorem namesB_size : namesB.size = 38 := rfl
theorem namesB_at : ∀ i : Fin 38, (namesB[i.1]'(by rw [namesB_size]; exact i.2)).toNat < 128 ∧ (((namesB[i.1]'(by rw [namesB_size]; exact i.2)).toNat : Nat) : Int) = namesH.getD i.1 0 ∧ nmB (namesH.getD i.1 0) = true := by
  decide
theorem names_take {i : Nat} (hi : i < 38) : namesH.take (i + 1) = namesH.take i ++ [namesH.getD i 0] := by
  rw [List.take_add_one]
  congr 1
  rw [List.getElem?_eq_getElem (show i < namesH.length from hi), List.getD_eq_getElem?_getD, List.getElem?_eq_getElem (show i < namesH.length from hi)]
  rfl
theorem list_all {s : List Nm} {P : Nat → Prop} {w : World} {bx : Nat} (h : GSt P w bx s) : listH (holdsR s) namesH = s := by
  obtain ⟨H, last, V, G, h1, rfl⟩ := h
  have : ∀ ns : List Int, (∀ n ∈ ns, nmB n = true) → listH (holdsR (allH H last)) ns = listH (atH H last) ns := by
    intro ns
    induction ns with
    | nil => intro _; rfl
    | cons n t ih =>
      intro hn
      have e := ih (fun m hm => hn m (by simp [hm]))
      have e2 : holdsR (allH H last) n = atH H last n := by rw [all_holds, if_pos (hn n (by simp))]
      unfold listH at e ⊢
      rw [List.filterMap_cons, List.filterMap_cons, e, e2]
  exact this namesH (fun n hn => (mem_names n).1 hn)
theorem nmB_wf {n : Int} (hnb : nmB n = true) : (Lit.int .i32 n).wf = true := by
  unfold nmB littleR at hnb
  simp only [Bool.or_eq_true, Bool.and_eq_true, decide_eq_true_eq] at hnb
  simp only [Lit.wf, IntKind.min, IntKind.max, IntKind.signed, IntKind.bits]
  simp
  omega
/-- between the rounds -/
structure AllG (w wr : World) (n i : Nat) (v : Value) (s : List Nm) : Prop where
  it : wr.heap[w.heap.size]? = some (.stringIter namesB i)
  out : OutS (fun _ => False) 0 (w.heap.size + 1) wr v n (listH (holdsR s) (namesH.take i))
  be : Below w.heap.size w wr
  n0 : n ≤ i
theorem AllG.next {w wr : World} {n i : Nat} {v : Value} {s : List Nm} (h : AllG w wr n i v s) :
    (wr.iterAt w.heap.size namesB (i + 1)).heap[w.heap.size]? = some (.stringIter namesB (i + 1)) ∧ OutS (fun _ => False) 0 (w.heap.size + 1) (wr.iterAt w.heap.size namesB (i + 1)) v n (listH (holdsR s) (namesH.take i)) ∧ Below w.heap.size w (wr.iterAt w.heap.size namesB (i + 1)) := by
  have hb := Lib.below_iterAt h.be (Nat.le_refl _) namesB (i + 1)
  refine ⟨Lib.iterAt_heap _ _ _ _ _ h.it, ?_, hb⟩
  obtain ⟨vs, h1, h2⟩ := h.out
  have hf : Fr (fun k => k = w.heap.size) wr (wr.iterAt w.heap.size namesB (i + 1)) := ⟨rfl, rfl, rfl, by rw [Lib.iterAt_size]; exact Nat.le_refl _, fun k _ hk => Lib.iterAt_other _ _ _ _ _ hk⟩
  refine ⟨vs, own_fr h1 hf (fun k e => by have := (h1.lt k e).1; omega), ?_⟩
  refine NmAt.mono (F := FS (fun _ => False) 0 (w.heap.size + 1) wr v) (FS.grow (by rw [Lib.iterAt_size]; exact Nat.le_refl _)) (NmAt.frF hf ?_ h2)
  rintro k (q | q) e
  · exact q.1
  · omega
theorem AllG.pos {w wr : World} {n i g : Nat} {v : Value} {s : List Nm} (h : AllG w wr n i v s) (hg : w.heap.size = g) : wr.iterPos g = i := by
  subst hg
  unfold World.iterPos
  rw [h.it]
/-- a name under which nothing is held -/
theorem AllG.skip {w wr w2 : World} {n i : Nat} {v : Value} {s : List Nm} (h : AllG w wr n i v s) (hi : i < 38) (hno : holdsR s (namesH.getD i 0) = none) (hb : Below (wr.iterAt w.heap.size namesB (i + 1)).heap.size (wr.iterAt w.heap.size namesB (i + 1)) w2) (o : Obj) :
    AllG w (w2.alloc o) n (i + 1) v s := by
  obtain ⟨h1, h2, h3⟩ := h.next
  have hb2 : Below (wr.iterAt w.heap.size namesB (i + 1)).heap.size (wr.iterAt w.heap.size namesB (i + 1)) (w2.alloc o) := hb.alloc hb.size _
  refine ⟨(hb2.block _ (heap_lt h1)).trans h1, ?_, h3.trans (hb2.mono h3.size), by have := h.n0; omega⟩
  rw [names_take hi, listH_snoc, hno]
  simp only [List.append_nil]
  exact h2.below hb2
/-- a name under which r is held -/
theorem AllG.take {w wr w2 : World} {n i : Nat} {v : Value} {s : List Nm} {r : Rg} {a : Option Addr} {c : Nat} (h : AllG w wr n i v s) (hi : i < 38) (hr : holdsR s (namesH.getD i 0) = some r) (hb : Below (wr.iterAt w.heap.size namesB (i + 1)).heap.size (wr.iterAt w.heap.size namesB (i + 1)) w2)
    (hf : FreshL (wr.iterAt w.heap.size namesB (i + 1)).heap.size w2 a r.L.length c r.L) (hw : ∀ x ∈ r.L, ∀ y ∈ x, (Lit.int .i32 y).wf = true) (o : Obj) :
    ∃ a' c' w5, (∀ ty, (Builtin.append_ #[26, 26] ty #[v, .slice (some ⟨w2.heap.size + 1, 0, none⟩) 1 1]).run Try.prog ((w2.alloc o).alloc (.cells #[.int .i32 (namesH.getD i 0), .int .i64 r.k, .slice a r.L.length c] 47)) = .ok (.slice a' (n + 1) c') w5) ∧ AllG w w5 (n + 1) (i + 1) (.slice a' (n + 1) c') s := by
  obtain ⟨h1, h2, h3⟩ := h.next
  have hb2 : Below (wr.iterAt w.heap.size namesB (i + 1)).heap.size (wr.iterAt w.heap.size namesB (i + 1)) (w2.alloc o) := hb.alloc hb.size _
  have hf2 : FreshL (wr.iterAt w.heap.size namesB (i + 1)).heap.size (w2.alloc o) a r.L.length c r.L := hf.below ((Below.refl _ _).alloc (Nat.le_refl _) _)
  have hlt := heap_lt h1
  obtain ⟨a', c', w5, q1, q2, q3⟩ := h2.put (m := namesH.getD i 0) (fun k hk => hk.elim) (by omega) (by have := h.n0; omega) hw hf2 hb2
  rw [show (w2.alloc o).heap.size = w2.heap.size + 1 by simp] at q1
  refine ⟨a', c', w5, q1, (q3.block _ (by omega)).trans h1, ?_, h3.trans (q3.mono (by omega)), by have := h.n0; omega⟩
  rw [names_take hi, listH_snoc, hr]
  exact q2
set_option maxHeartbeats 4000000 in
theorem pall_any (P : Nat → Prop) (bx : Nat) (s : List Nm) (w : World) (h : GSt P w bx s) :
    Calls Try.prog 18 #[.pointer (some ⟨bx, 0, none⟩)] w fun e w' => ∃ a c, e = .returned (.slice a s.length c) ∧ RdN (fun k => w.heap.size ≤ k) w' a s.length c s ∧ Below w.heap.size w w' := by
  have HG := Lib.hid h
  have HL : Hid (listH (holdsR s) namesH = s) := list_all h
  clear h
  obtain ⟨w0, hw0⟩ : ∃ w0, w.iter namesB 0 = w0 := ⟨_, rfl⟩
  have HST : Hid (AllG w w0 0 0 (.slice none 0 0) s) := by
    rw [← hw0]
    exact ⟨World.iter_heap w namesB 0, ⟨[], World.ownsRow_nil _ _ _ _, rfl⟩, (Below.refl _ _).alloc (Nat.le_refl _) _, Nat.le_refl _⟩
  obtain ⟨g, hgs⟩ : ∃ g, w.heap.size = g := ⟨_, rfl⟩
  have HGS := Lib.hid hgs
  have hr : ∀ t : TypeId, Try.prog.underlying t = some .string → (Instr.range t (.string namesB)).run Try.prog w = .ok (.pointer (some ⟨g, 0, none⟩)) w0 := fun t ht => by rw [← hw0, ← hgs]; exact run_range_string w t namesB ht
  have hr9 : (Instr.range 9 (.string ⟨#[34, 45, 48, 49, 50, 51, 52, 53, 54, 55, 56, 57, 97, 98, 99, 100, 101, 102, 103, 104, 105, 106, 107, 108, 109, 110, 111, 112, 113, 114, 115, 116, 117, 118, 119, 120, 121, 122]⟩)).run Try.prog w = .ok (.pointer (some ⟨g, 0, none⟩)) w0 := hr _ (by kernel_rfl)
  clear hr hw0 hgs
  go_enter Try.func18, Try.ntmps18
  go_wp2_with fail
  clear hr9
  go_loopw [3] (fun v3 wr => ∃ (i n : Nat) (a : Option Addr) (c : Nat), v3 = .slice a n c ∧ i ≤ 38 ∧ Hid (AllG w wr n i (.slice a n c) s)) (fun _ wr => 38 - wr.iterPos g)
  case atStart => exact ⟨0, 0, none, 0, rfl, by omega, HST⟩
  case round =>
    obtain ⟨i, n, a, c, rfl, hi, hst⟩ := hrel
    clear HST
    have hit := hst.out.it
    rw [HGS.out] at hit
    by_cases hlt : i < 38
    · obtain ⟨ha, hnm, hnb⟩ := namesB_at ⟨i, hlt⟩
      simp only at ha hnm hnb
      have hnx := fun ty => Lib.run_next_ascii_at (P := Try.prog) wr g namesB i ty hit (by rw [namesB_size]; exact hlt) ha
      rw [hnm] at hnx
      obtain ⟨h1, h2, h3⟩ := hst.out.next
      have HGT := Lib.hid (pget_any P bx s (namesH.getD i 0) (wr.iterAt w.heap.size namesB (i + 1)) (HG.out.below h3) (nmB_wf hnb))
      have HI : Hid (∀ W, (W : World).iterPos g = i + 1 → 38 - W.iterPos g < 38 - wr.iterPos g) := by
        intro W hW
        rw [hW, hst.out.pos HGS.out]
        omega
      cases hh : holdsR s (namesH.getD i 0) with
      | none =>
        have HC : Hid (Calls Try.prog 11 #[.pointer (some ⟨bx, 0, none⟩), .int .i32 (namesH.getD i 0)] (wr.iterAt w.heap.size namesB (i + 1)) fun e w2 => ∃ a' c', e = .returned (.tuple #[.agg #[.int .i64 0, .slice a' 0 c'], .int .i64 26]) ∧ Hid (∀ o, AllG w (w2.alloc o) n (i + 1) (.slice a n c) s)) := by
          have h9 := HGT.out
          rw [nmB_none hnb hh] at h9
          refine h9.mono ?_
          rintro e w2 ⟨a', c', rfl, hf, hw, hb⟩
          exact ⟨a', c', rfl, fun o => hst.out.skip hlt hh hb o⟩
        rw [HGS.out] at HC
        obtain ⟨W1, hW1⟩ : ∃ W1, wr.iterAt g namesB (i + 1) = W1 := ⟨_, rfl⟩
        rw [hW1] at HC hnx
        obtain ⟨nm, hnme⟩ : ∃ nm, namesH.getD i 0 = nm := ⟨_, rfl⟩
        rw [hnme] at HC hnx
        clear h1 h2 h3 HGT hh hnb hnm ha hit hst hW1 hnme
        go_wp2_with (go_at_call 11; (with_reducible refine HC.out.mono ?_); rintro e w2 ⟨a', c', rfl, HN⟩)
        go_roundw
        case rel => exact ⟨i + 1, n, a, c, rfl, by omega, HN.out _⟩
        case measure => exact HI.out _ ((HN.out _).pos HGS.out)
      | some r =>
        have HC : Hid (Calls Try.prog 11 #[.pointer (some ⟨bx, 0, none⟩), .int .i32 (namesH.getD i 0)] (wr.iterAt w.heap.size namesB (i + 1)) fun e w2 => ∃ rk m a' c', e = .returned (.tuple #[.agg #[.int .i64 rk, .slice a' m c'], .int .i64 0]) ∧
            Hid (∀ o, ∃ a5 c5 w5, (∀ ty, (Builtin.append_ #[26, 26] ty #[.slice a n c, .slice (some ⟨w2.heap.size + 1, 0, none⟩) 1 1]).run Try.prog ((w2.alloc o).alloc (.cells #[.int .i32 (namesH.getD i 0), .int .i64 rk, .slice a' m c'] 47)) = .ok (.slice a5 (n + 1) c5) w5) ∧ AllG w w5 (n + 1) (i + 1) (.slice a5 (n + 1) c5) s)) := by
          have h9 := HGT.out
          rw [nmB_some hnb hh] at h9
          refine h9.mono ?_
          rintro e w2 ⟨a', c', rfl, hf, hw, hb⟩
          exact ⟨r.k, r.L.length, a', c', rfl, fun o => hst.out.take hlt hh hb hf hw o⟩
        rw [HGS.out] at HC
        obtain ⟨W1, hW1⟩ : ∃ W1, wr.iterAt g namesB (i + 1) = W1 := ⟨_, rfl⟩
        rw [hW1] at HC hnx
        obtain ⟨nm, hnme⟩ : ∃ nm, namesH.getD i 0 = nm := ⟨_, rfl⟩
        rw [hnme] at HC hnx
        clear h1 h2 h3 HGT hh hnb hnm ha hit hst hW1 hnme
        go_upto_region 6 with (go_at_call 11; (with_reducible refine HC.out.mono ?_); rintro e w2 ⟨rk, m, a', c', rfl, HN⟩)
        obtain ⟨a5, c5, w5, hrun, hn5⟩ := HN.out (.cells #[.int .i64 rk, .slice a' m c'] 31)
        have HRUN := Lib.hid hrun
        have HN5 := Lib.hid hn5
        clear hrun hn5 HN
        go_wp2_with (at_builtin; go_must (with_reducible refine Lib.wpList_append_run _ rfl _ _ _ _ rfl _ _ rfl rfl _ _ (HRUN.out _) ?_))
        go_roundw
        case rel => exact ⟨i + 1, n + 1, a5, c5, rfl, by omega, HN5⟩
        case measure => exact HI.out _ (HN5.out.pos HGS.out)
    · obtain rfl : i = 38 := by omega
      have hnx := fun ty => Lib.run_next_end_at (P := Try.prog) wr g namesB 38 ty hit (by rw [namesB_size]; omega)
      have HF : Hid (n = s.length ∧ RdN (fun k => w.heap.size ≤ k) wr a s.length c s ∧ Below w.heap.size w wr) := by
        have ho := hst.out.out
        rw [show namesH.take 38 = namesH from rfl, HL.out] at ho
        obtain ⟨vs, h1, h2⟩ := ho
        have hn : n = s.length := by
          have e1 := h1.1
          have e2 := h2.len
          omega
        subst hn
        refine ⟨rfl, ⟨vs, Rc.own h1, InF.own h1 (fun k e => by have := (h1.lt k e).1; omega), NmAt.mono ?_ h2⟩, hst.out.be⟩
        rintro k (q | q)
        · exact q.1.elim
        · omega
      clear hst hit
      go_wp2_with fail
      go_ret
      exact ⟨a, c, by rw [HF.out.1]; rfl, HF.out.2.1, HF.out.2.2⟩
end Go.Proofs.Ytleidcegbfnmkaa.U
