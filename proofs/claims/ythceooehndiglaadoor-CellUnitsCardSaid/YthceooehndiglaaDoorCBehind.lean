/-
  The contract of 'behind': the next unit of a line.
-/
import Derived.Test.YthceooehndiglaaDoorCLeaf
import Derived.Deep.QuietTactic
import Derived.BigQuiet
namespace Go.Proofs.YthceooehndiglaaDoor.U
open Go.RowKit
set_option linter.unusedVariables false
set_option linter.unusedSimpArgs false

theorem width1_le {line : List Int} {tab col i : Nat} (ht : 1 ≤ tab ∧ tab ≤ 64) : width1 line tab col i ≤ 64 := by
  unfold width1
  split
  · omega
  · split
    · omega
    · have := widthM_le (rn line i); omega
theorem width1_pos {line : List Int} {tab col i : Nat} (ht : 1 ≤ tab ∧ tab ≤ 64) : 1 ≤ width1 line tab col i := by
  unfold width1
  split
  · have := Nat.mod_lt col (show 0 < tab by omega); omega
  · split
    · omega
    · rename_i h
      have h' := widthM_zero (rn line i)
      by_cases h0 : widthM (rn line i) = 0
      · exact absurd (h'.1 h0) h
      · omega
theorem endCol_le {line : List Int} {tab : Nat} (ht : 1 ≤ tab ∧ tab ≤ 64) : ∀ i, endCol (unitsN line tab i) ≤ 64 * i
  | 0 => Nat.le_refl _
  | i + 1 => by
    have ih := endCol_le (line := line) ht i
    rw [unitsN_succ]
    by_cases hj : joins line (unitsN line tab i) i = true
    · rcases snoc_cases (unitsN line tab i) with e | ⟨p, x, e⟩
      · rw [e] at hj; simp [joins, openU_nil] at hj
      · rw [e] at hj ih ⊢
        rw [stepU_join hj, endCol_snoc]
        rw [endCol_snoc] at ih
        simp only; omega
    · rw [stepU_new (by simpa using hj), endCol_snoc]
      have h := width1_le (line := line) (col := endCol (unitsN line tab i)) (i := i) ht
      simp only [newU]; omega

/-- a unit's numbers, without its Text -/
def unV (u : Un) : Value := .agg #[.int .i64 u.fr, .int .i64 u.to, .int .i64 u.col, .int .i64 u.wd, .slice none 0 0]

/-- what 'behind' tells -/
def Next (line : List Int) (tab p : Nat) (u : Un) : Prop :=
  unitsN line tab u.to = unitsN line tab p ++ [u] ∧ p < u.to ∧ u.to ≤ line.length ∧ (u.to < line.length → joins line (unitsN line tab u.to) u.to = false)

/-- it may go on -/
def Grow (line : List Int) (tab p : Nat) (u : Un) : Prop :=
  unitsN line tab u.to = unitsN line tab p ++ [u] ∧ p < u.to ∧ u.to ≤ line.length ∧ rn line u.fr ≠ 9 ∧ u.fr = p

theorem Grow.start {line : List Int} {tab p : Nat} (hp : p < line.length) (hj : joins line (unitsN line tab p) p = false) (h9 : rn line p ≠ 9) : Grow line tab p (newU line tab (unitsN line tab p) p) :=
  ⟨by show unitsN line tab (p + 1) = _; rw [unitsN_succ, stepU_new hj], Nat.lt_succ_self p, hp, h9, rfl⟩
theorem next_tab {line : List Int} {tab p : Nat} (hp : p < line.length) (hj : joins line (unitsN line tab p) p = false) (h9 : rn line p = 9) : Next line tab p (newU line tab (unitsN line tab p) p) := by
  have e : unitsN line tab (p + 1) = unitsN line tab p ++ [newU line tab (unitsN line tab p) p] := by rw [unitsN_succ, stepU_new hj]
  refine ⟨e, Nat.lt_succ_self p, hp, fun _ => ?_⟩
  show joins line (unitsN line tab (p + 1)) (p + 1) = false
  rw [e]
  unfold joins
  rw [openU_snoc]
  simp [newU, h9]
theorem Grow.on {line : List Int} {tab p : Nat} {u : Un} (h : Grow line tab p u) (hz : zeroB (rn line u.to) = true) (hm : marksU line u ≤ 2) (hl : u.to < line.length) : Grow line tab p { u with to := u.to + 1 } := by
  obtain ⟨h1, h2, h3, h4, h5⟩ := h
  refine ⟨?_, by simp only; omega, hl, h4, h5⟩
  show unitsN line tab (u.to + 1) = _
  rw [unitsN_succ, h1, stepU_join]
  unfold joins
  rw [openU_snoc, hz]
  simp [h4, hm]
theorem Grow.stop {line : List Int} {tab p : Nat} {u : Un} (h : Grow line tab p u) (hs : u.to = line.length ∨ zeroB (rn line u.to) = false ∨ 2 < marksU line u) : Next line tab p u := by
  obtain ⟨h1, h2, h3, h4, h5⟩ := h
  refine ⟨h1, h2, h3, fun hl => ?_⟩
  rw [h1]
  unfold joins
  rw [openU_snoc]
  rcases hs with hs | hs | hs
  · omega
  · simp [hs]
  · simp; intros; omega

/-- a block that holds a unit -/
def Ub (W : World) (B : Nat) (f t c d : Int) : Prop := W.heap[B]? = some (.cells #[.int .i64 f, .int .i64 t, .int .i64 c, .int .i64 d, .slice none 0 0] 39 (0, 0))
theorem Ub.lt {W B f t c d} (h : Ub W B f t c d) : B < W.heap.size := (Array.getElem?_eq_some_iff.1 h).1
theorem Ub.cells {W B f t c d} (h : Ub W B f t c d) : W.cell? ⟨B, 0, none⟩ = some (.int .i64 f) ∧ W.cell? ⟨B, 1, none⟩ = some (.int .i64 t) ∧ W.cell? ⟨B, 2, none⟩ = some (.int .i64 c) ∧ W.cell? ⟨B, 3, none⟩ = some (.int .i64 d) ∧ W.cell? ⟨B, 4, none⟩ = some (.slice none 0 0) := by
  simp [World.cell?, show W.heap[B]? = _ from h]
theorem Ub.frozen {W B f t c d} (h : Ub W B f t c d) (i : Nat) : W.frozen? ⟨B, i, none⟩ = false := by simp [World.frozen?, show W.heap[B]? = _ from h]
theorem Ub.new (W : World) (f t c d : Int) : Ub (W.alloc (.cells #[.int .i64 f, .int .i64 t, .int .i64 c, .int .i64 d, .slice none 0 0] 39)) W.heap.size f t c d := heap_alloc_new W _
theorem Ub.keep {W W' B f t c d} (h : Ub W B f t c d) (e : W'.heap[B]? = W.heap[B]?) : Ub W' B f t c d := e.trans h
theorem Ub.set1 {W B f t c d} (h : Ub W B f t c d) (t' : Int) : Ub (W.setCell ⟨B, 1, none⟩ (.int .i64 t')) B f t' c d := by
  obtain ⟨hlt, hk⟩ := Array.getElem?_eq_some_iff.1 h
  show (W.heap.modify B _)[B]? = _
  rw [Array.getElem?_eq_getElem (by rw [Array.size_modify]; exact hlt), Array.getElem_modify_self, hk]
  rfl

theorem rd_rn {w : World} {a : Option Addr} {len cap : Nat} {line : List Int} (hr : Rd .i32 w a len cap line) (h : 0 < len) : ∃ b off, a = some ⟨b, off, none⟩ ∧ b < w.heap.size ∧ ∀ i, i < len → w.cell? ⟨b, off + i, none⟩ = some (.int .i32 (rn line i)) := by
  obtain ⟨b, off, ha, hc⟩ := hr.2.2.2.2.2 h
  exact ⟨b, off, ha, block_lt_of_cell (hc 0 h), hc⟩
theorem results_cell1 {fn : Func} {p : Tmp} {ty : TypeId} (h : fn.results = #[.cell p ty]) (tmps : Array Value) (P : Program) (w : World) :
    (results fn tmps).run P w = ((asAddr (tmps.getD p undef)).run P w).andThen fun a w₁ => (loadVar ty a).run P w₁ := by
  simp only [results, h]
  simp [Sem.run_bind, Result.andThen]
theorem results_cell2 {fn : Func} {p q : Tmp} {ty tq : TypeId} (h : fn.results = #[.cell p ty, .cell q tq]) (tmps : Array Value) (P : Program) (w : World) :
    (results fn tmps).run P w = ((asAddr (tmps.getD p undef)).run P w).andThen fun a w₁ => ((loadVar ty a).run P w₁).andThen fun v w₂ =>
      ((asAddr (tmps.getD q undef)).run P w₂).andThen fun b w₃ => ((loadVar tq b).run P w₃).andThen fun u w₄ => .ok (.tuple #[v, u]) w₄ := by
  simp only [results, h]
  simp [Sem.run_bind, Result.andThen]
theorem unV_eq {u v : Un} (h : u = v) : unV u = unV v := by rw [h]

theorem behind_tab (b off len cap : Nat) (line : List Int) (tab : Nat) (fr to col wd : Nat) (w : World) (ht : 1 ≤ tab ∧ tab ≤ 64) (hp : to < len) (hlen : len ≤ 100000) (hcw : col + wd ≤ 64 * 100000)
    (hb : b < w.heap.size) (hc : w.cell? ⟨b, off + to, none⟩ = some (.int .i32 9)) :
    Calls Tryd.prog 35 #[.slice (some ⟨b, off, none⟩) len cap, .int .i64 tab, unV ⟨fr, to, col, wd⟩] w fun e w' =>
      e = .returned (unV ⟨to, to + 1, col + wd, tab - (col + wd) % tab⟩) ∧ Below w.heap.size w w' := by
  obtain ⟨m, hm⟩ : ∃ m, (col + wd) % tab = m := ⟨_, rfl⟩
  have hm1 : m < tab := by rw [← hm]; exact Nat.mod_lt _ (by omega)
  rw [hm]
  have hrem : Int.tmod ((col : Int) + (wd : Int)) (tab : Int) = (m : Int) := by rw [← hm, Int.tmod_eq_emod_of_nonneg (by omega)]; simp
  have hrem2 : ((col : Int) + (wd : Int)) % (tab : Int) = (m : Int) := by rw [← hm]; simp
  obtain ⟨h1, h2⟩ := ht
  unfold unV
  clear hm
  go_enter Tryd.func35, Tryd.ntmps35
  go_wp2_with fail
  (try simp only [Exit.inBlock, Exit.then])
  refine bodyPost_ret (v := unV ⟨to, to + 1, col + wd, tab - m⟩) ?_ rfl ⟨rfl, ?_⟩
  · rw [results_cell1 rfl]
    go_simp
    unfold unV
    simp
    omega
  · exact ((Below.refl _ w).alloc (Nat.le_refl _) _).alloc (by simp) _

theorem Gl.alloc {w : World} (h : Gl w) (o : Obj) : Gl (w.alloc o) := h.below h.lt ((Below.refl _ w).alloc (Nat.le_refl _) o)
theorem width_is (r : Int) (n : Nat) (w : World) (hg : Gl w) (h : Hid (widthM r = n)) :
    Calls Tryd.prog 10 #[.int .i32 r] w fun e w' => e = .returned (.int .i64 n) ∧ w = w' := by
  have := h.out; subst this; exact width_any r w hg

set_option maxHeartbeats 4000000 in
theorem behind_rest (b off len cap : Nat) (line : List Int) (tab : Nat) (fr to col wd : Nat) (w : World) (hp : to < len) (hlen : len ≤ 100000) (hcw : col + wd ≤ 64 * 100000)
    (hl : line.length = len) (hg : Gl w) (hb : b < w.heap.size) (hc : ∀ i, i < len → w.cell? ⟨b, off + i, none⟩ = some (.int .i32 (rn line i)))
    (h9 : rn line to ≠ 9) (hj : joins line (unitsN line tab to) to = false) (hcol : col + wd = endCol (unitsN line tab to)) :
    Calls Tryd.prog 35 #[.slice (some ⟨b, off, none⟩) len cap, .int .i64 tab, unV ⟨fr, to, col, wd⟩] w fun e w' =>
      ∃ u, e = .returned (unV u) ∧ Next line tab to u ∧ Below w.heap.size w w' := by
  have hG := Grow.start (line := line) (tab := tab) (p := to) (by omega) hj h9
  have hcd : newU line tab (unitsN line tab to) to = ⟨to, to + 1, col + wd, width1 line tab (col + wd) to⟩ := by unfold newU; rw [← hcol]
  rw [hcd] at hG
  obtain ⟨d, hd⟩ : ∃ d, width1 line tab (col + wd) to = d := ⟨_, rfl⟩
  rw [hd] at hG
  have hd2 : d = if zeroB (rn line to) then 1 else widthM (rn line to) := by rw [← hd]; unfold width1; rw [if_neg h9]
  obtain ⟨z, hz⟩ : ∃ z, zc line to = z := ⟨_, rfl⟩
  have hz1 : z ≤ 1 := by rw [← hz]; exact zc_le line to
  obtain ⟨n, hn⟩ : ∃ n, widthM (rn line to) = n := ⟨_, rfl⟩
  have hcase : (n = 0 ∧ z = 1 ∧ d = 1) ∨ (1 ≤ n ∧ z = 0 ∧ d = n) := by
    have h0 := widthM_zero (rn line to)
    by_cases hzz : zeroB (rn line to) = true
    · left
      refine ⟨by rw [← hn]; exact h0.2 hzz, ?_, ?_⟩
      · rw [← hz]; unfold zc; rw [if_pos hzz]
      · rw [hd2, if_pos hzz]
    · right
      refine ⟨?_, ?_, ?_⟩
      · rw [← hn]; by_cases h : widthM (rn line to) = 0; exact absurd (h0.1 h) hzz; omega
      · rw [← hz]; unfold zc; rw [if_neg hzz]
      · rw [hd2, if_neg hzz, hn]
  have hnle : n ≤ 2 := by rw [← hn]; exact widthM_le _
  have HN : Hid (widthM (rn line to) = n) := hn
  have HM : Hid (∀ q, to < q → marksU line ⟨to, q, col + wd, d⟩ = (q - to) + z) := by intro q _; unfold marksU; rw [hz]
  have HC := Lib.hid hc
  have c0 := hc to hp
  have hne : (rn line to == 9) = false := by simpa using h9
  obtain ⟨r, hr⟩ : ∃ r, rn line to = r := ⟨_, rfl⟩
  rw [hr] at c0 hne HN
  have HG := Lib.hid hG
  have HGl := Lib.hid hg
  clear hG hcd hd hd2 hz hn hc hj h9 hr hcol hg
  have HL := Lib.hid hl; clear hl
  unfold unV
  rcases hcase with ⟨rfl, rfl, rfl⟩ | ⟨hn1, rfl, rfl⟩
  · go_enter Tryd.func35, Tryd.ntmps35
    go_wp2_with (go_at_call 10; refine (width_is r 0 _ ((HGl.out.alloc _).alloc _) HN).mono ?_; rintro e w' ⟨rfl, rfl⟩)
    go_loopw [7] (fun room wr => ∃ k q : Nat, room = .int .i64 k ∧ to < q ∧ q ≤ len ∧ k + (q - to) + 1 = 3 ∧ Hid (Grow line tab to ⟨to, q, col + wd, 1⟩) ∧ wr = ((w.alloc (.cells #[.int .i64 (to : Int), .int .i64 (q : Int), .int .i64 ((col : Int) + (wd : Int)), .int .i64 (1 : Nat), .slice none 0 0] 39)).alloc (.cells #[.int .i64 0, .int .i64 0, .int .i64 0, .int .i64 0, .slice none 0 0] 39))) (fun room _ => (intOf room).toNat)
    case atStart => exact ⟨1, to + 1, rfl, by omega, by omega, by omega, HG, by simp⟩
    case round =>
      obtain ⟨k, q, rfl, hq1, hq2, hk, hgr, rfl⟩ := hrel
      have hm : marksU line ⟨to, q, col + wd, 1⟩ = (q - to) + 1 := HM.out q hq1
      by_cases hk0 : k = 0
      · have HF := Lib.hid (Grow.stop hgr.out (.inr (.inr (by omega))))
        subst hk0
        clear hm hgr
        go_wp2_with fail
        (try simp only [Exit.inBlock, Exit.then])
        refine bodyPost_ret (v := unV ⟨to, q, col + wd, 1⟩) ?_ rfl ⟨_, rfl, HF.out, ?_⟩
        · rw [results_cell1 rfl]
          go_simp
          unfold unV
          simp
        · exact ((Below.refl _ w).alloc (Nat.le_refl _) _).alloc (by simp) _
      by_cases hql : q = len
      · have HF := Lib.hid (Grow.stop hgr.out (.inl (by have := HL.out; simp only; omega)))
        subst hql
        clear hm hgr
        have hk1 : 0 < k := by omega
        go_wp2_with fail
        (try simp only [Exit.inBlock, Exit.then])
        refine bodyPost_ret (v := unV ⟨to, q, col + wd, 1⟩) ?_ rfl ⟨_, rfl, HF.out, ?_⟩
        · rw [results_cell1 rfl]
          go_simp
          unfold unV
          simp
        · exact ((Below.refl _ w).alloc (Nat.le_refl _) _).alloc (by simp) _
      have hql' : q < len := by omega
      have cq := HC.out q hql'
      have hk1 : 0 < k := by omega
      have h0 := widthM_zero (rn line q)
      obtain ⟨y, hy⟩ : ∃ y, widthM (rn line q) = y := ⟨_, rfl⟩
      rw [hy] at h0
      have hyle : y ≤ 2 := by rw [← hy]; exact widthM_le _
      have HY : Hid (widthM (rn line q) = y) := hy
      by_cases hzz : zeroB (rn line q) = true
      · have HF := Lib.hid (Grow.on hgr.out hzz (by rw [hm]; omega) (by have := HL.out; simp only; omega))
        obtain rfl : y = 0 := h0.2 hzz
        obtain ⟨x, hx⟩ : ∃ x, rn line q = x := ⟨_, rfl⟩
        rw [hx] at cq HY
        clear h0 hm hgr hy hx hzz hyle
        go_wp2_with (go_at_call 10; refine (width_is x 0 _ ((HGl.out.alloc _).alloc _) HY).mono ?_; rintro e w' ⟨rfl, rfl⟩)
        go_roundw
        case rel => exact ⟨k - 1, q + 1, by congr 1; omega, by omega, by omega, by omega, HF, by simp⟩
        case measure => simp [intOf]; omega
      · have HF := Lib.hid (Grow.stop hgr.out (.inr (.inl (by simpa using hzz))))
        have hy1 : 1 ≤ y := by
          by_cases h : y = 0
          · exact absurd (h0.1 h) hzz
          · omega
        obtain ⟨x, hx⟩ : ∃ x, rn line q = x := ⟨_, rfl⟩
        rw [hx] at cq HY
        clear h0 hm hgr hy hx hzz
        go_wp2_with (go_at_call 10; refine (width_is x y _ ((HGl.out.alloc _).alloc _) HY).mono ?_; rintro e w' ⟨rfl, rfl⟩)
        (try simp only [Exit.inBlock, Exit.then])
        refine bodyPost_ret (v := unV ⟨to, q, col + wd, 1⟩) ?_ rfl ⟨_, rfl, HF.out, ?_⟩
        · rw [results_cell1 rfl]
          go_simp
          unfold unV
          simp
        · exact ((Below.refl _ w).alloc (Nat.le_refl _) _).alloc (by simp) _
  · have hd0 : ((d : Int) == 0) = false := by simp; omega
    go_enter Tryd.func35, Tryd.ntmps35
    go_wp2_with (go_at_call 10; refine (width_is r d _ ((HGl.out.alloc _).alloc _) HN).mono ?_; rintro e w' ⟨rfl, rfl⟩)
    go_loopw [7] (fun room wr => ∃ k q : Nat, room = .int .i64 k ∧ to < q ∧ q ≤ len ∧ k + (q - to) + 0 = 3 ∧ Hid (Grow line tab to ⟨to, q, col + wd, d⟩) ∧ wr = ((w.alloc (.cells #[.int .i64 (to : Int), .int .i64 (q : Int), .int .i64 ((col : Int) + (wd : Int)), .int .i64 (d : Nat), .slice none 0 0] 39)).alloc (.cells #[.int .i64 0, .int .i64 0, .int .i64 0, .int .i64 0, .slice none 0 0] 39))) (fun room _ => (intOf room).toNat)
    case atStart => exact ⟨2, to + 1, rfl, by omega, by omega, by omega, HG, by simp⟩
    case round =>
      obtain ⟨k, q, rfl, hq1, hq2, hk, hgr, rfl⟩ := hrel
      have hm : marksU line ⟨to, q, col + wd, d⟩ = (q - to) + 0 := HM.out q hq1
      by_cases hk0 : k = 0
      · have HF := Lib.hid (Grow.stop hgr.out (.inr (.inr (by omega))))
        subst hk0
        clear hm hgr
        go_wp2_with fail
        (try simp only [Exit.inBlock, Exit.then])
        refine bodyPost_ret (v := unV ⟨to, q, col + wd, d⟩) ?_ rfl ⟨_, rfl, HF.out, ?_⟩
        · rw [results_cell1 rfl]
          go_simp
          unfold unV
          simp
        · exact ((Below.refl _ w).alloc (Nat.le_refl _) _).alloc (by simp) _
      by_cases hql : q = len
      · have HF := Lib.hid (Grow.stop hgr.out (.inl (by have := HL.out; simp only; omega)))
        subst hql
        clear hm hgr
        have hk1 : 0 < k := by omega
        go_wp2_with fail
        (try simp only [Exit.inBlock, Exit.then])
        refine bodyPost_ret (v := unV ⟨to, q, col + wd, d⟩) ?_ rfl ⟨_, rfl, HF.out, ?_⟩
        · rw [results_cell1 rfl]
          go_simp
          unfold unV
          simp
        · exact ((Below.refl _ w).alloc (Nat.le_refl _) _).alloc (by simp) _
      have hql' : q < len := by omega
      have cq := HC.out q hql'
      have hk1 : 0 < k := by omega
      have h0 := widthM_zero (rn line q)
      obtain ⟨y, hy⟩ : ∃ y, widthM (rn line q) = y := ⟨_, rfl⟩
      rw [hy] at h0
      have hyle : y ≤ 2 := by rw [← hy]; exact widthM_le _
      have HY : Hid (widthM (rn line q) = y) := hy
      by_cases hzz : zeroB (rn line q) = true
      · have HF := Lib.hid (Grow.on hgr.out hzz (by rw [hm]; omega) (by have := HL.out; simp only; omega))
        obtain rfl : y = 0 := h0.2 hzz
        obtain ⟨x, hx⟩ : ∃ x, rn line q = x := ⟨_, rfl⟩
        rw [hx] at cq HY
        clear h0 hm hgr hy hx hzz hyle
        go_wp2_with (go_at_call 10; refine (width_is x 0 _ ((HGl.out.alloc _).alloc _) HY).mono ?_; rintro e w' ⟨rfl, rfl⟩)
        go_roundw
        case rel => exact ⟨k - 1, q + 1, by congr 1; omega, by omega, by omega, by omega, HF, by simp⟩
        case measure => simp [intOf]; omega
      · have HF := Lib.hid (Grow.stop hgr.out (.inr (.inl (by simpa using hzz))))
        have hy1 : 1 ≤ y := by
          by_cases h : y = 0
          · exact absurd (h0.1 h) hzz
          · omega
        obtain ⟨x, hx⟩ : ∃ x, rn line q = x := ⟨_, rfl⟩
        rw [hx] at cq HY
        clear h0 hm hgr hy hx hzz
        go_wp2_with (go_at_call 10; refine (width_is x y _ ((HGl.out.alloc _).alloc _) HY).mono ?_; rintro e w' ⟨rfl, rfl⟩)
        (try simp only [Exit.inBlock, Exit.then])
        refine bodyPost_ret (v := unV ⟨to, q, col + wd, d⟩) ?_ rfl ⟨_, rfl, HF.out, ?_⟩
        · rw [results_cell1 rfl]
          go_simp
          unfold unV
          simp
        · exact ((Below.refl _ w).alloc (Nat.le_refl _) _).alloc (by simp) _

theorem behind_any (a : Option Addr) (len cap : Nat) (line : List Int) (tab : Nat) (ht : 1 ≤ tab ∧ tab ≤ 64) (v : Un) (w : World) (hr : Rd .i32 w a len cap line) (hp : v.to < len) (hlen : len ≤ 100000) (hg : Gl w)
    (hj : joins line (unitsN line tab v.to) v.to = false) (hcol : v.col + v.wd = endCol (unitsN line tab v.to)) :
    Calls Tryd.prog 35 #[.slice a len cap, .int .i64 tab, unV v] w fun e w' =>
      ∃ u, e = .returned (unV u) ∧ Next line tab v.to u ∧ Below w.heap.size w w' := by
  obtain ⟨fr, to, col, wd⟩ := v
  simp only at hp hj hcol
  obtain ⟨b, off, rfl, hb, hc⟩ := rd_rn hr (by omega)
  have hcw : col + wd ≤ 64 * 100000 := by have := endCol_le (line := line) ht to; omega
  by_cases h9 : rn line to = 9
  · refine (behind_tab b off len cap line tab fr to col wd w ht hp hlen hcw hb (by rw [hc to hp, h9])).mono ?_
    rintro e w' ⟨rfl, hbl⟩
    refine ⟨_, rfl, ?_, hbl⟩
    have h := next_tab (line := line) (tab := tab) (p := to) (by rw [hr.len]; exact hp) hj h9
    have e : newU line tab (unitsN line tab to) to = ⟨to, to + 1, col + wd, tab - (col + wd) % tab⟩ := by
      unfold newU width1
      rw [← hcol, if_pos h9]
    rw [e] at h
    exact h
  · exact behind_rest b off len cap line tab fr to col wd w hp hlen hcw hr.len hg hb hc h9 hj hcol
end Go.Proofs.YthceooehndiglaaDoor.U
