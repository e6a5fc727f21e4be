/-
  The document's table: New, Save, Back; two rows held against each other.
-/
import Derived.Test.YtblbbcgdgbajnaaPRefB
namespace Go.Proofs.Ytblbbcgdgbajnaa.U
open Go.RowKit
set_option linter.unusedVariables false
set_option linter.unusedSimpArgs false

theorem Rd_new (k : IntKind) (w : World) (xs : List Int) (cs : Array Value) (e : TypeId) (n : Nat) (hc : cs = (xs.map (Value.int k)).toArray) (hn : xs.length = n) (hm : n ≤ maxLen) (hw : ∀ x ∈ xs, (Lit.int k x).wf = true) :
    Rd k (w.alloc (.cells cs e)) (some ⟨w.heap.size, 0, none⟩) n n xs := by
  subst hc
  refine ⟨hn, Nat.le_refl _, hm, hw, (fun h => by cases h), fun _ => ⟨_, 0, rfl, fun i hi => ?_⟩⟩
  rw [cell_of_row _ _ _ _ _ _ (heap_alloc_new w _), Nat.zero_add]
  simp only [List.getElem?_toArray, List.getElem?_map]
  rw [List.getElem?_eq_getElem (by omega), List.getD_eq_getElem?_getD, List.getElem?_eq_getElem (by omega)]
  rfl
theorem runes_same (a1 a2 : Option Addr) (len c1 c2 : Nat) (xs : List Int) (w : World) (h1 : Rd .i32 w a1 len c1 xs) (h2 : Rd .i32 w a2 len c2 xs) :
    Calls Try.prog 14 #[.slice a1 len c1, .slice a2 len c2] w fun e w' => e = .returned (.bool true) ∧ Below w.heap.size w w' := by
  have hsm := h1.small
  have heq : ((len : Int) != (len : Int)) = false := by simp
  by_cases h0 : len = 0
  · subst h0
    go_enter Try.func14, Try.ntmps14
    go_wp2_with fail
    go_loopw [5] (fun i wr => i = .int .i64 0 ∧ wr = w) (fun _ _ => 0)
    case atStart => exact ⟨rfl, rfl⟩
    case round =>
      obtain ⟨rfl, rfl⟩ := hrel
      go_wp2
      go_ret
      exact ⟨rfl, Below.refl _ _⟩
  · obtain ⟨p1, o1, rfl, hc1⟩ := h1.2.2.2.2.2 (by omega)
    obtain ⟨p2, o2, rfl, hc2⟩ := h2.2.2.2.2.2 (by omega)
    have hp1 := block_lt_of_cell (hc1 0 (by omega))
    have hp2 := block_lt_of_cell (hc2 0 (by omega))
    have HC1 := Lib.hid hc1; clear hc1
    have HC2 := Lib.hid hc2; clear hc2
    clear h1 h2
    go_enter Try.func14, Try.ntmps14
    go_wp2_with fail
    go_loopw [5] (fun i wr => ∃ k : Nat, k ≤ len ∧ i = .int .i64 k ∧ Below w.heap.size w wr) (fun i _ => len - (intOf i).toNat)
    case atStart => exact ⟨0, by omega, rfl, Below.refl _ _⟩
    case round =>
      obtain ⟨k, hk, rfl, hbl⟩ := hrel
      by_cases hlt : k < len
      · have e1 := (hbl.cell (p := ⟨p1, o1 + k, none⟩) hp1).trans (HC1.out k hlt)
        have e2 := (hbl.cell (p := ⟨p2, o2 + k, none⟩) hp2).trans (HC2.out k hlt)
        obtain ⟨x, hx⟩ : ∃ x, xs.getD k 0 = x := ⟨_, rfl⟩
        rw [hx] at e1 e2
        clear hx
        have hxx : (x != x) = false := by simp
        go_wp2_with fail
        go_quiet (fail)
        go_wp2_with fail
        go_roundw
        case rel => exact ⟨k + 1, by omega, by go_num, bdrewN hbl _⟩
        case measure => simp [intOf]; omega
      · obtain rfl : k = len := by omega
        go_wp2
        go_ret
        exact ⟨rfl, hbl⟩

theorem infoSl : (Try.prog.info? 22).map (fun i => (i.zero, i.size, i.bytes)) = some (some (.slice none 0 0), 1, 24) := by kernel_rfl

/-- the document's table, just made -/
theorem rNew (a : Option Addr) (n c : Nat) (xs : List Int) (w : World) (hr : Rd .i32 w a n c xs) (hn : n ≤ 65536) :
    Calls Try.prog 10 #[.slice a n c] w fun e w' => ∃ bx G, e = .returned (.pointer (some ⟨bx, 0, none⟩)) ∧ RefOk w' G bx xs [] ∧ Below w.heap.size w w' ∧ ∀ k, G k → w.heap.size ≤ k := by
  have hxl := hr.1
  obtain ⟨a1, c1, w1, hrun1, ho1, hb1⟩ := app_lit w a n c xs hr (by omega)
  have HRUN1 := Lib.hid hrun1
  have HFIN : Hid (∃ bx G, Ending.returned (.pointer (some ⟨w1.heap.size, 0, none⟩)) = Ending.returned (.pointer (some ⟨bx, 0, none⟩)) ∧ RefOk (w1.alloc (.cells #[.slice a1 n c1, .slice none 0 0] 34)) G bx xs [] ∧ Below w.heap.size w (w1.alloc (.cells #[.slice a1 n c1, .slice none 0 0] 34)) ∧ ∀ k, G k → w.heap.size ≤ k) := by
    refine ⟨w1.heap.size, fun k => w.heap.size ≤ k ∧ k < (w1.alloc (.cells #[.slice a1 n c1, .slice none 0 0] 34)).heap.size, rfl, ?_, hb1.alloc hb1.size _, fun k hk => hk.1⟩
    refine { ex := ⟨a1, c1, .slice none 0 0, [], ?_, ?_, World.ownsRow_nil _ _ _ _, rfl, (fun x hx => by cases hx), ?_, (fun k e => by simp [Value.ownBlock] at e)⟩, inG := ⟨hb1.size, by simp⟩, wf := hr.2.2.2.1, room := by omega, lt := fun k hk => hk.2 }
    · rw [hxl]; exact heap_alloc_new w1 _
    · rw [hxl]; exact own_mono (ho1.alloc _) (Nat.zero_le _)
    · rw [hxl]; exact fun k e => ⟨(ho1.lt k e).1, by have := (ho1.lt k e).2; simp; omega⟩
  have hn' : (n : Int) ≤ 65536 := by omega
  clear hrun1 ho1 hb1 hr hxl
  go_enter Try.func10, Try.ntmps10
  go_wp2_with (at_builtin; go_must (with_reducible refine Lib.wpList_append_run _ rfl (.tmp 6) (.tmp 7) _ _ rfl _ _ rfl rfl _ _ (HRUN1.out _) ?_))
  go_ret
  exact HFIN.out

/-- the rows that are remembered can be read -/
theorem RefOk.saved {w : World} {G : Nat → Prop} {bx : Nat} {L : List Int} {S : List (List Int)} (h : RefOk w G bx L S) {k : Nat} (hk : k < S.length) : ∃ sa sc g a m c, w.cell? ⟨bx, 1, none⟩ = some (.slice (some ⟨g, 0, none⟩) S.length c) ∧ sc = m ∧ w.cell? ⟨g, k, none⟩ = some (.slice sa (S.getD k []).length m) ∧ g < w.heap.size ∧ Rd .i32 w sa (S.getD k []).length m (S.getD k []) ∧ a = sa := by
  obtain ⟨la, lc, sv, vs, h1, h2, h3, h4, h5, h6, h7⟩ := h.ex
  obtain ⟨s0, sc0, rfl⟩ := own_slice h3
  obtain ⟨g, rfl⟩ := own_some h3 (by omega)
  have hvl : vs.length = S.length := by rw [← h4]; simp
  obtain ⟨cur, hg, hcl, htake, hnc, hcm, -, -⟩ := own_cur h3
  obtain ⟨x, hv⟩ : ∃ x, vs[k]? = some x := ⟨vs[k]'(by omega), List.getElem?_eq_getElem _⟩
  have hS : S.getD k [] = x.2 := by
    rw [List.getD_eq_getElem?_getD, ← h4, List.getElem?_map, hv]
    rfl
  obtain ⟨o1, o2, o3⟩ := h5 x (List.mem_of_getElem? hv)
  obtain ⟨sa, m, hsv⟩ := own_slice o1
  rw [hsv] at o1
  refine ⟨sa, m, g, sa, m, sc0, cell_row h1 1, rfl, ?_, heap_lt hg, ?_, rfl⟩
  · rw [cell_row hg]
    have hk2 : (cur.take (S.length * 1))[k]? = (vs.map Prod.fst)[k]? := by rw [htake]
    rw [List.getElem?_take, if_pos (by omega), List.getElem?_map, hv] at hk2
    rw [hS, ← hsv]
    simpa using hk2
  · rw [hS]
    exact Rd.own (k := .i32) o1 o3

theorem rBack_no (bx : Nat) (G : Nat → Prop) (L : List Int) (S : List (List Int)) (id : Int) (w : World) (h : RefOk w G bx L S) (hid : ¬ (1 ≤ id ∧ id ≤ S.length)) :
    Calls Try.prog 28 #[.pointer (some ⟨bx, 0, none⟩), .int .i64 id] w fun e w' => e = .returned (.int .i64 4) ∧ w = w' := by
  obtain ⟨la, lc, sv, vs, h1, h2, h3, h4, h5, h6, h7⟩ := h.ex
  obtain ⟨s0, sc0, rfl⟩ := own_slice h3
  have c1 : w.cell? ⟨bx, 1, none⟩ = some (.slice s0 S.length sc0) := cell_row h1 1
  have hlt := heap_lt h1
  clear h1 h2 h3 h4 h5 h6 h7 h
  obtain ⟨NS, hNS⟩ : ∃ NS, S.length = NS := ⟨_, rfl⟩
  rw [hNS] at c1 hid
  by_cases q1 : id < 1
  · clear hid
    go_enter Try.func28, Try.ntmps28
    go_wp2
    go_ret
    exact ⟨rfl, rfl⟩
  · have q2 : (NS : Int) < id := by omega
    have q1' : 1 ≤ id := by omega
    clear hid q1
    go_enter Try.func28, Try.ntmps28
    go_wp2
    go_ret
    exact ⟨rfl, rfl⟩

theorem rBack_ok (bx : Nat) (G : Nat → Prop) (L : List Int) (S : List (List Int)) (k : Nat) (w : World) (h : RefOk w G bx L S) (hk : k < S.length) (hs : S.length ≤ lim) (hr : (S.getD k []).length ≤ 65536) :
    Calls Try.prog 28 #[.pointer (some ⟨bx, 0, none⟩), .int .i64 ((k : Int) + 1)] w fun e w' => e = .returned (.int .i64 0) ∧ AfterX w G bx (S.getD k []) S w' := by
  obtain ⟨sa, sc, g, a, m, c, c1, rfl, ck, hgl, hrd, rfl⟩ := h.saved hk
  unfold lim at hs
  have hbx := h.lt _ h.inG
  obtain ⟨R, hR⟩ : ∃ R, S.getD k [] = R := ⟨_, rfl⟩
  rw [hR] at ck hrd hr ⊢
  obtain ⟨a1, c1', w1, hrun1, ho1, hb1⟩ := app_lit w a R.length sc R hrd (by omega)
  have hlay := h.lay (L' := R) (la := a1) (lc := c1') hb1 ho1 hrd.2.2.2.1 hr
  have hR1 := h.below hb1
  have hbx1 := hR1.lt _ hR1.inG
  obtain ⟨la', lc', c01, _⟩ := hR1.rd
  have f01 := hR1.fz 0
  have HA : Hid (AfterX w G bx R S (w1.setCell ⟨bx, 0, none⟩ (.slice a1 R.length c1'))) := ⟨_, hlay.1, hlay.2, fun k hk => hk.1⟩
  have HRUN1 := Lib.hid hrun1
  obtain ⟨NS, hNS⟩ : ∃ NS, S.length = NS := ⟨_, rfl⟩
  rw [hNS] at c1 hk hs
  generalize R.length = NR at *
  have i1 : (0 : Int) ≤ (k : Int) := by omega
  have i2 : (k : Int) < (NS : Int) := by omega
  have i3 : (k : Int) + 1 ≤ (NS : Int) := by omega
  have i4 : ¬ ((k : Int) + 1 < 1) := by omega
  clear hrun1 ho1 hb1 hlay hR1 hrd hR h hNS
  go_enter Try.func28, Try.ntmps28
  go_wp2_with (at_builtin; go_must (with_reducible refine Lib.wpList_append_run _ rfl (.tmp 17) (.tmp 25) _ _ rfl _ _ rfl rfl _ _ (HRUN1.out _) ?_))
  go_ret
  exact ⟨rfl, HA.out⟩
theorem rBack (bx : Nat) (G : Nat → Prop) (L : List Int) (S : List (List Int)) (id : Int) (w : World) (h : RefOk w G bx L S) (hs : S.length ≤ lim) (hr : ∀ x ∈ S, x.length ≤ 65536) :
    Calls Try.prog 28 #[.pointer (some ⟨bx, 0, none⟩), .int .i64 id] w fun e w' => e = .returned (.int .i64 (backM L S id).2) ∧ AfterX w G bx (backM L S id).1 S w' := by
  unfold backM
  by_cases hb : 1 ≤ id ∧ id ≤ S.length
  · rw [if_pos hb]
    obtain ⟨k, rfl⟩ : ∃ k : Nat, id = (k : Int) + 1 := ⟨(id - 1).toNat, by omega⟩
    rw [show ((k : Int) + 1).toNat - 1 = k from by omega]
    have hk : k < S.length := by omega
    exact rBack_ok bx G L S k w h hk hs (by rw [List.getD_eq_getElem?_getD, List.getElem?_eq_getElem hk]; exact hr _ (List.getElem_mem hk))
  · rw [if_neg hb]
    refine (rBack_no bx G L S id w h hb).mono ?_
    rintro e w' ⟨rfl, rfl⟩
    exact ⟨rfl, AfterX.same h (Below.refl _ _)⟩
end Go.Proofs.Ytblbbcgdgbajnaa.U
