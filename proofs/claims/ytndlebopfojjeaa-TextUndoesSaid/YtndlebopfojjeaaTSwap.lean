/-
  The contract of swap.
-/
import Derived.Test.YtndlebopfojjeaaTTextB
import Derived.StillTailTactics
namespace Go.Proofs.Ytndlebopfojjeaa.U
open Go.RowKit
set_option linter.unusedVariables false
set_option linter.unusedSimpArgs false
set_option maxRecDepth 100000

theorem nats_set (ns : List Nat) (i v : Nat) : (nats ns).set i (.int .i64 (v : Nat)) = nats (ns.set i v) := by unfold nats; rw [List.map_set]
theorem modify_set (ns : List Nat) (i v : Nat) (h : i < ns.length) : ns.modify i (· + v) = ns.set i (ns.getD i 0 + v) := by
  apply List.ext_getElem?
  intro k
  rw [List.getElem?_modify, List.getElem?_set]
  by_cases e : i = k
  · subst e
    simp [h]
  · simp [e]
theorem off_mono {L : List (List Int)} {i c j d : Nat} {x y : List Int} (hx : L[i]? = some x) (hy : L[j]? = some y) (hd : d ≤ y.length) (h : offN L i c ≤ offN L j d) : i ≤ j := by
  by_cases e : i ≤ j
  · exact e
  · exfalso
    unfold offN at h
    have h1 : sizeN ((lens L).take (j + 1)) ≤ sizeN ((lens L).take i) := by
      have := sizeN_take_le ((lens L).take i) (j + 1)
      rwa [List.take_take, Nat.min_eq_left (by omega)] at this
    have h2 := size_take hy
    rw [lens_take, lens_take] at h2
    omega
theorem rdl_wf {F : Nat → Prop} {w : World} {a : Option Addr} {n c : Nat} {L : List (List Int)} (h : RdL F w a n c L) : ∀ x ∈ joinL L, (Lit.int .i32 x).wf = true := by
  intro v hv
  have h1 : v ∈ joinE L := by
    unfold joinL at hv
    exact List.dropLast_subset _ hv
  unfold joinE at h1
  simp only [List.mem_flatMap, List.mem_append, List.mem_singleton] at h1
  obtain ⟨x, hx, h1⟩ := h1
  rcases h1 with h1 | h1
  · obtain ⟨i, hi, e⟩ := List.getElem_of_mem hx
    obtain ⟨b, off, ra, rc, _, _, _, _, hrd, _⟩ := h.get (Below.refl _ _) (List.getElem?_eq_getElem hi)
    rw [e] at hrd
    exact hrd.2.2.2.1 v h1
  · subst h1; rfl

/-- two places' boxes -/
def Boxes (w W : World) (i c j d : Nat) : Prop :=
  W.heap[w.heap.size]? = some (.cells #[.int .i64 (i : Nat), .int .i64 (c : Nat)] 30 (0, 0)) ∧ W.heap[w.heap.size + 1]? = some (.cells #[.int .i64 (j : Nat), .int .i64 (d : Nat)] 30 (0, 0))
theorem Boxes.fr {w W W' : World} {i c j d : Nat} {G : Nat → Prop} (h : Boxes w W i c j d) (hf : Fr G W W') (h0 : ¬ G w.heap.size) (h1 : ¬ G (w.heap.size + 1)) : Boxes w W' i c j d :=
  ⟨(hf.block _ (heap_lt h.1) h0).trans h.1, (hf.block _ (heap_lt h.2) h1).trans h.2⟩
theorem Boxes.below {w W W' : World} {i c j d : Nat} (h : Boxes w W i c j d) (hb : Below W.heap.size W W') : Boxes w W' i c j d := h.fr (Fr.of_below (fun _ => False) hb) id id

/-- as far as the table has not been touched -/
structure SwA (P G : Nat → Prop) (w W : World) (bt ng i c j d : Nat) (L M : List (List Int)) (la : Option Addr) (ln lc : Nat) : Prop where
  bx : Boxes w W i c j d
  tx : TX P W bt L ng
  rd : RdL G W la ln lc M
  bl : Below w.heap.size w W
theorem SwA.below {P G : Nat → Prop} {w W W' : World} {bt ng i c j d : Nat} {L M : List (List Int)} {la : Option Addr} {ln lc : Nat} (h : SwA P G w W bt ng i c j d L M la ln lc) (hb : Below W.heap.size W W') : SwA P G w W' bt ng i c j d L M la ln lc :=
  ⟨h.bx.below hb, h.tx.below hb, h.rd.below hb, h.bl.trans (hb.mono h.bl.size)⟩
/-- .. and a row of lengths is laid -/
structure SwB (P G : Nat → Prop) (w W : World) (bt ng i c j d : Nat) (L M : List (List Int)) (la : Option Addr) (ln lc gw : Nat) (ns : List Nat) : Prop where
  a : SwA P G w W bt ng i c j d L M la ln lc
  row : W.heap[gw]? = some (.cells (nats ns).toArray 3 (0, 0))
  far : w.heap.size + 1 < gw
theorem SwB.below {P G : Nat → Prop} {w W W' : World} {bt ng i c j d : Nat} {L M : List (List Int)} {la : Option Addr} {ln lc gw : Nat} {ns : List Nat} (h : SwB P G w W bt ng i c j d L M la ln lc gw ns) (hb : Below W.heap.size W W') : SwB P G w W' bt ng i c j d L M la ln lc gw ns :=
  ⟨h.a.below hb, (hb.block _ (heap_lt h.row)).trans h.row, h.far⟩
theorem SwB.set {P G : Nat → Prop} {w W : World} {bt ng i c j d : Nat} {L M : List (List Int)} {la : Option Addr} {ln lc gw : Nat} {ns : List Nat} (h : SwB P G w W bt ng i c j d L M la ln lc gw ns) (hP : ∀ k, P k → k < w.heap.size) (hG : ∀ k, G k → k < w.heap.size) (k v : Nat) :
    SwB P G w (W.setCell ⟨gw, k, none⟩ (.int .i64 (v : Nat))) bt ng i c j d L M la ln lc gw (ns.set k v) := by
  have hf : Fr (fun k => k = gw) W (W.setCell ⟨gw, k, none⟩ (.int .i64 (v : Nat))) := (Fr.refl _ _).setCell _ _ (fun _ => rfl)
  have hgw := h.far
  refine ⟨⟨h.a.bx.fr hf (by omega) (by omega), h.a.tx.fr hf (fun k hk e => by have := hP k hk; omega), h.a.rd.frF hf (fun k hk e => by have := hG k hk; omega), h.a.bl.setCell (by show _ ≤ gw; omega) _⟩, ?_, h.far⟩
  rw [cell_set1 h.row, nats_set]


theorem rdn_heap {w : World} {g : Nat} {ns : List Nat} (h : w.heap[g]? = some (.cells (nats ns).toArray 3 (0, 0))) (hn : ns.length ≤ 1099511627776) : RdN w (some ⟨g, 0, none⟩) ns.length ns.length ns := by
  have hl : (nats ns).length = ns.length := by simp [nats]
  have ho := own_of (B := 0) (n := ns.length) (cap := ns.length) (size := 1) h (Nat.zero_le _) (Nat.le_refl _) (by unfold maxLen; omega) (by rw [List.size_toArray, hl]; omega)
  rw [Nat.mul_one, show (nats ns).toArray.toList.take ns.length = nats ns from List.take_of_length_le (by simp [nats])] at ho
  exact Rc.own ho
/-- what swap leaves -/
theorem swap_fin {P F1 F2 : Nat → Prop} {w w5 w6 w7 w8 w9 : World} {bt tt gw np ng : Nat} {L' : List (List Int)} {TG : List Nat} (hP : ∀ k, P k → k < w.heap.size) (hbl : Below w.heap.size w w5) (hF1 : ∀ k, F1 k → P k ∧ ¬ F2 k) (hF2 : ∀ k, F2 k → P k)
    (hgw : w.heap.size ≤ gw) (hgl : gw < w5.heap.size) (hf6 : Fr (fun k => F1 k ∨ w5.heap.size ≤ k) w5 w6) (hb7 : Below w6.heap.size w6 w7) (hf8 : Fr (fun k => F1 k ∨ w5.heap.size ≤ k) w7 w8) (hts : TS (fun k => F1 k ∨ w5.heap.size ≤ k) w8 tt (joinL L') [] np ng)
    (hrep : RepPost w8 F2 (fun k => k = gw ∨ w8.heap.size ≤ k) bt (ifv tt) TG (.returned (.tuple #[])) w9) (hTG : TG = lens L') (hne : L' ≠ []) (hpl : plainL L') :
    TX (fun k => P k ∨ w.heap.size ≤ k) w9 bt L' ng ∧ Fr P w w9 := by
  obtain ⟨_, ps', hx, hfl, hf9⟩ := hrep
  have s5 := hbl.size
  have s6 := hf6.size
  have s7 := hb7.size
  have s8 := hf8.size
  have hlen : TG.length = L'.length := by rw [hTG, lens_len]
  rw [hlen] at hx
  refine ⟨⟨fun k => (F1 k ∨ w5.heap.size ≤ k) ∧ ¬ (w8.heap.size ≤ k), _, tt, np, ps', ?_, hx, by rw [hfl, hTG], ?_, ?_, hne, hpl⟩, ?_⟩
  · refine (hts.shrink (N := fun k => w8.heap.size ≤ k) (fun k hk => hk)).fr hf9 (fun k hk hF => ?_)
    rcases hk.1 with h | h
    · exact (hF1 k h).2 hF
    · have := hP k (hF2 k hF); omega
  · rintro k ⟨h1, h2⟩
    refine ⟨?_, ?_⟩
    · rcases h1 with h | h
      · exact .inl (hF1 k h).1
      · exact .inr (by omega)
    · rintro ⟨h3, _⟩
      rcases h1 with h | h
      · have := hP k (hF1 k h).1
        rcases h3 with h3 | h3 | h3
        · exact (hF1 k h).2 h3
        · omega
        · omega
      · rcases h3 with h3 | h3 | h3
        · have := hP k (hF2 k h3); omega
        · omega
        · omega
  · rintro k ⟨h3, _⟩
    rcases h3 with h3 | h3 | h3
    · exact .inl (hF2 k h3)
    · exact .inr (by omega)
    · exact .inr (by omega)
  · have g5 : Fr P w w5 := Fr.of_below P hbl
    have g6 : Fr P w w6 := g5.trans hf6 (fun k hk h => by
      rcases h with h | h
      · exact (hF1 k h).1
      · omega)
    have g7 : Fr P w w7 := g6.trans (Fr.of_below (fun _ => False) hb7) (fun _ _ h => h.elim)
    have g8 : Fr P w w8 := g7.trans hf8 (fun k hk h => by
      rcases h with h | h
      · exact (hF1 k h).1
      · omega)
    exact g8.trans hf9 (fun k _ h => hF2 k h)

set_option maxHeartbeats 8000000 in
theorem swap_any (P G : Nat → Prop) (bt ng : Nat) (L : List (List Int)) (i c j d : Nat) (x y : List Int) (M : List (List Int)) (la : Option Addr) (ln lc : Nat) (w : World) (h : TX P w bt L ng) (hP : ∀ k, P k → k < w.heap.size) (hx : L[i]? = some x) (hc : c ≤ x.length) (hy : L[j]? = some y) (hd : d ≤ y.length) (hle : offN L i c ≤ offN L j d)
    (hr : RdL G w la ln lc M) (hG : ∀ k, G k → k < w.heap.size ∧ ¬ P k) (hM : M ≠ []) (hMp : plainL M) (hroom : (joinL L).length - (offN L j d - offN L i c) + (joinL M).length ≤ 65536) (hng : ng + 131072 ≤ lim) :
    Calls Try.prog 49 #[.pointer (some ⟨bt, 0, none⟩), .agg #[.int .i64 (i : Nat), .int .i64 (c : Nat)], .agg #[.int .i64 (j : Nat), .int .i64 (d : Nat)], .slice la ln lc] w fun e w' => e = .returned (.tuple #[]) ∧
      TX (fun k => P k ∨ w.heap.size ≤ k) w' bt (swapL L i (x.take c) j (y.drop d) M) (ng + 65536) ∧ Fr P w w' := by
  have hrow := h.row
  have hsz := h.size
  have hcn := h.count
  have hij := off_mono hx hy hd hle
  have hlast : offN L j d ≤ (joinL L).length := off_le hy hd
  have hjl : j < L.length := (List.getElem?_eq_some_iff.1 hy).1
  have hMl := hr.len
  have hMs := joinL_len hM
  have hMj : (joinL M).length ≤ 65536 := by omega
  have hln0 : 0 < ln := by rw [← hMl]; exact List.length_pos_iff.2 hM
  have hlnb : ln ≤ 65537 := by have := size_count M; omega
  have hyb : y.length ≤ 65536 := by have := off_le hy (Nat.le_refl _); omega
  have hxb : x.length ≤ 65536 := by have := off_le hx (Nat.le_refl _); omega
  obtain ⟨wb, hwb⟩ : ∃ wb, (w.alloc (.cells #[.int .i64 (i : Nat), .int .i64 (c : Nat)] 30)).alloc (.cells #[.int .i64 (j : Nat), .int .i64 (d : Nat)] 30) = wb := ⟨_, rfl⟩
  have hB : Below w.heap.size w wb := by rw [← hwb]; exact ((Below.refl _ _).alloc (Nat.le_refl _) _).alloc (by simp) _
  have hbx : Boxes w wb i c j d := by
    rw [← hwb]
    refine ⟨by rw [Below.heap_alloc _ _ _ (by simp), heap_alloc_new], ?_⟩
    have := heap_alloc_new (w.alloc (.cells #[.int .i64 (i : Nat), .int .i64 (c : Nat)] 30)) (.cells #[.int .i64 (j : Nat), .int .i64 (d : Nat)] 30)
    simpa using this
  have HA : Hid (SwA P G w wb bt ng i c j d L M la ln lc) := ⟨hbx, h.below hB, hr.below hB, hB⟩
  have hbet : betR L (i : Nat) (c : Nat) (j : Nat) (d : Nat) = (((offN L i c : Nat) : Int), ((offN L j d - offN L i c : Nat) : Int), (0 : Int)) := by
    unfold betR
    rw [hasP_iff.2 ⟨i, c, x, rfl, rfl, hx, hc⟩, hasP_iff.2 ⟨j, d, y, rfl, rfl, hy, hd⟩]
    simp only [Bool.and_self, ↓reduceIte, Int.toNat_natCast]
    rw [if_neg (by omega)]
    simp only [Prod.mk.injEq, true_and, and_true]
    omega
  obtain ⟨a, ha⟩ : ∃ a, offN L i c = a := ⟨_, rfl⟩
  obtain ⟨m, hm⟩ : ∃ m, offN L j d - offN L i c = m := ⟨_, rfl⟩
  have HBET : Hid (Calls Try.prog 50 #[.pointer (some ⟨bt, 0, none⟩), .agg #[.int .i64 (i : Nat), .int .i64 (c : Nat)], .agg #[.int .i64 (j : Nat), .int .i64 (d : Nat)]] wb fun e w' => e = .returned (.tuple #[.int .i64 (a : Nat), .int .i64 (m : Nat), .int .i64 0]) ∧ Hid (SwA P G w w' bt ng i c j d L M la ln lc)) := by
    have := between_any P bt ng L (i : Nat) (c : Nat) (j : Nat) (d : Nat) wb HA.out.tx (by unfold i64b; omega) (by unfold i64b; omega) (by unfold i64b; omega) (by unfold i64b; omega)
    rw [hbet, hm, ha] at this
    refine this.mono ?_
    rintro e w' ⟨rfl, hb⟩
    exact ⟨rfl, HA.out.below hb⟩
  have HLINE : Hid (∀ W, Hid (SwA P G w W bt ng i c j d L M la ln lc) → ∀ W', Below W.heap.size W W' → Calls Try.prog 37 #[.pointer (some ⟨bt, 1, none⟩), .int .i64 (j : Nat)] W' fun e w' => ∃ q : Nat, e = .returned (.tuple #[.int .i64 (q : Nat), .int .i64 (y.length : Nat)]) ∧ Hid (SwA P G w w' bt ng i c j d L M la ln lc)) := by
    intro W hW W' hWW
    have hW' := hW.out.below hWW
    obtain ⟨tt, F, ba, n, bc, ps, _, _, _, hlb, hfl, _⟩ := hW'.tx.open_
    have := tline_any F bt ba n bc ps L.length j W' hlb (by omega)
    rw [hfl, List.getD_eq_getElem?_getD, lens_at hy, Option.getD_some] at this
    refine this.mono ?_
    rintro e w' ⟨rfl, hb⟩
    exact ⟨_, rfl, hW'.below hb⟩
  have HLENS : Hid (∀ W, Hid (SwA P G w W bt ng i c j d L M la ln lc) → Calls Try.prog 45 #[.slice la ln lc] W fun e w' => ∃ gw, e = .returned (.slice (some ⟨gw, 0, none⟩) ln ln) ∧ Hid (SwB P G w w' bt ng i c j d L M la ln lc gw (lens M))) := by
    intro W hW
    refine (lengthsOf_any G la ln lc M W hW.out.rd (by omega)).mono ?_
    rintro e w' ⟨rfl, ho, hb⟩
    refine ⟨_, rfl, hW.out.below hb, ?_, by have := heap_lt hW.out.bx.2; omega⟩
    obtain ⟨cur, hg, hcl, ht, _⟩ := own_cur ho
    rw [Nat.mul_one] at hcl ht
    rw [List.take_of_length_le (by omega)] at ht
    rw [hg, ht]
  have HWB := Lib.hid hwb
  have hbtl : bt < w.heap.size := by obtain ⟨_, _, _, _, _, _, _, _, hl, _⟩ := h.open_; exact hl
  obtain ⟨L', hL'⟩ : ∃ L', swapL L i (x.take c) j (y.drop d) M = L' := ⟨_, rfl⟩
  rw [hL']
  have HLP := Lib.hid hL'
  clear hL'
  obtain ⟨Y, hY⟩ : ∃ Y, y.length = Y := ⟨_, rfl⟩
  rw [hY] at HLINE hd hyb
  obtain ⟨ns, hns⟩ : ∃ ns, lens M = ns := ⟨_, rfl⟩
  rw [hns] at HLENS
  have hnl : ns.length = ln := by rw [← hns, lens_len, hMl]
  have hnb : ∀ k, ns.getD k 0 ≤ 65537 := by
    intro k
    by_cases hk : k < ns.length
    · rw [List.getD_eq_getElem?_getD, List.getElem?_eq_getElem hk, Option.getD_some]
      have h1 := mem_le_sum (List.getElem_mem hk)
      have h2 := sizeN_sum (lens M)
      rw [hns] at h2 hMs
      omega
    · rw [List.getD_eq_getElem?_getD, List.getElem?_eq_none (by omega)]; simp
  -- with[0] += c
  obtain ⟨n0, hn0⟩ : ∃ n0, ns.getD 0 0 = n0 := ⟨_, rfl⟩
  have hn0b := hnb 0
  rw [hn0] at hn0b
  obtain ⟨ns1, hns1⟩ : ∃ ns1, ns.set 0 (n0 + c) = ns1 := ⟨_, rfl⟩
  have hnl1 : ns1.length = ln := by rw [← hns1, List.length_set, hnl]
  obtain ⟨n1, hn1⟩ : ∃ n1, ns1.getD (ln - 1) 0 = n1 := ⟨_, rfl⟩
  have hn1b : n1 ≤ 65537 + 65536 := by
    rw [← hn1, ← hns1, List.getD_eq_getElem?_getD, List.getElem?_set]
    by_cases e : 0 = ln - 1
    · rw [if_pos e, if_pos (by omega), Option.getD_some]; omega
    · rw [if_neg e, ← List.getD_eq_getElem?_getD]
      have := hnb (ln - 1)
      omega
  obtain ⟨ns2, hns2⟩ : ∃ ns2, ns1.set (ln - 1) (n1 + (Y - d)) = ns2 := ⟨_, rfl⟩
  have hcell : ∀ (W : World) (gw : Nat) (zs : List Nat) (k : Nat), W.heap[gw]? = some (.cells (nats zs).toArray 3 (0, 0)) → k < zs.length → W.cell? ⟨gw, k, none⟩ = some (.int .i64 (zs.getD k 0 : Nat)) := by
    intro W gw zs k hg hk
    rw [cell_row hg]
    simp only [List.getElem?_toArray]
    rw [List.getD_eq_getElem?_getD, List.getElem?_eq_getElem hk, Option.getD_some]
    exact nats_at (List.getElem?_eq_getElem hk)
  have HCELL := Lib.hid hcell
  have HP := Lib.hid hP
  have HG := Lib.hid hG
  have HM := Lib.hid hM
  have HN := Lib.hid hns
  have HN0 := Lib.hid hn0
  have HN1 := Lib.hid hn1
  have HS1 := Lib.hid hns1
  have HS2 := Lib.hid hns2
  have HL0 := Lib.hid hnl
  have HL1 := Lib.hid hnl1
  have HX := Lib.hid hx
  have HY := Lib.hid hy
  have HYL := Lib.hid hY
  have HH := Lib.hid h
  have HMP := Lib.hid hMp
  have HROOM := Lib.hid hroom
  have HA' := Lib.hid ha
  have HM' := Lib.hid hm
  have HSTAT := Lib.hid hsz
  have hle2 := Lib.hid hle
  have hrow2 := Lib.hid hrow
  have hlast2 := Lib.hid hlast
  have hMl2 := Lib.hid hMl
  have hcn3 := Lib.hid hcn
  have hcx : c ≤ 65536 := by omega
  have ham : a ≤ 65536 := by omega
  have hmm : m ≤ 65536 := by omega
  have hjb : j ≤ 65537 := by omega
  clear hcell hP hG hM hns hn0 hn1 hns1 hns2 hnl hnl1 hx hy hY h hMp hroom ha hm hsz hwb hB hbx hbet hMs hMj hnb hle hlast hMl hr hrow hcn hjl
  go_enter Try.func49, Try.ntmps49
  go_upto_region 1 with fail
  rw [HWB.out]
  have b00 : wb.cell? ⟨w.heap.size, 0, none⟩ = some (.int .i64 (i : Nat)) := cell_row HA.out.bx.1 0
  have b01 : wb.cell? ⟨w.heap.size, 1, none⟩ = some (.int .i64 (c : Nat)) := cell_row HA.out.bx.1 1
  have b10 : wb.cell? ⟨w.heap.size + 1, 0, none⟩ = some (.int .i64 (j : Nat)) := cell_row HA.out.bx.2 0
  have b11 : wb.cell? ⟨w.heap.size + 1, 1, none⟩ = some (.int .i64 (d : Nat)) := cell_row HA.out.bx.2 1
  have lb0 := heap_lt HA.out.bx.1
  have lb1 := heap_lt HA.out.bx.2
  go_wp2_with fail
  refine HBET.out.mono ?_
  rintro e w1 ⟨rfl, h1⟩
  clear b00 b01 b10 b11 lb0 lb1 HWB HBET
  go_wp2_with fail
  have b10 : w1.cell? ⟨w.heap.size + 1, 0, none⟩ = some (.int .i64 (j : Nat)) := cell_row h1.out.bx.2 0
  have lb1 := heap_lt h1.out.bx.2
  go_cut [12] (fun v12 wx => v12 = .int .i64 (Y : Nat) ∧ Hid (SwA P G w wx bt ng i c j d L M la ln lc))
  case first =>
    go_region_with (go_at_call 37; refine (HLINE.out w1 h1 _ (by first | exact Below.refl _ _ | exact (Below.refl _ _).drew)).mono ?_; rintro e w2 ⟨q, rfl, h2⟩)
    all_goals
      go_wp2_with fail
      go_meet
      exact ⟨rfl, h2⟩
  case rest =>
    obtain ⟨rfl, h2⟩ := hcut
    obtain ⟨w2, rfl⟩ : ∃ w2, w2 = wc := ⟨_, rfl⟩
    clear b10 lb1 h1
    go_wp2_with fail
    refine (HLENS.out _ h2).mono ?_
    rintro e w3 ⟨gw, rfl, h3⟩
    clear h2
    go_wp2_with fail
    have b01 : w3.cell? ⟨w.heap.size, 1, none⟩ = some (.int .i64 (c : Nat)) := cell_row h3.out.a.bx.1 1
    have lb0 := heap_lt h3.out.a.bx.1
    have g0 := HCELL.out w3 gw ns 0 h3.out.row (by have := HL0.out; omega)
    rw [HN0.out] at g0
    have gz := frozen_row h3.out.row 0
    have gl := heap_lt h3.out.row
    have hne : ¬ (gw = w.heap.size) := by have := h3.out.far; omega
    have q1 : IntKind.i64.wrap ((n0 : Int) + (c : Int)) = (n0 : Int) + (c : Int) := by rw [IntKind.wrap_i64]; omega
    go_cut [33] (fun v33 wx => Hid (SwB P G w wx bt ng i c j d L M la ln lc gw ns1))
    case first =>
      have HNX : Hid (SwB P G w (w3.setCell ⟨gw, 0, none⟩ (.int .i64 ((n0 : Int) + (c : Int)))) bt ng i c j d L M la ln lc gw ns1) := by
        have := h3.out.set HP.out (fun k hk => (HG.out k hk).1) 0 (n0 + c)
        rw [HS1.out] at this
        show SwB _ _ _ _ _ _ _ _ _ _ _ _ _ _ _ _ _
        simpa using this
      go_region
      all_goals
        go_wp2_with fail
        go_meet
        exact HNX.out.below (Below.refl _ _).drew
    case rest =>
      clear b01 lb0 g0 gz gl hne q1 h3
      go_wp2_with fail
      obtain ⟨w4, rfl⟩ : ∃ w4, w4 = wc := ⟨_, rfl⟩
      have h4 := hcut
      obtain ⟨lm, hlm⟩ : ∃ lm, ln - 1 = lm := ⟨_, rfl⟩
      obtain ⟨yd, hyd⟩ : ∃ yd, Y - d = yd := ⟨_, rfl⟩
      rw [hlm] at HN1 HS2
      rw [hyd] at HS2
      have q1 : IntKind.i64.wrap ((ln : Int) - 1) = (lm : Int) := by rw [IntKind.wrap_i64]; omega
      have q2 : IntKind.i64.wrap ((Y : Int) - (d : Int)) = (yd : Int) := by rw [IntKind.wrap_i64]; omega
      have q3 : IntKind.i64.wrap ((n1 : Int) + (yd : Int)) = (n1 : Int) + (yd : Int) := by rw [IntKind.wrap_i64]; omega
      have q4 : (lm : Int) < (ln : Int) := by omega
      have q5 : lm < ln := by omega
      have b11 : w4.cell? ⟨w.heap.size + 1, 1, none⟩ = some (.int .i64 (d : Nat)) := cell_row h4.out.a.bx.2 1
      have lb1 := heap_lt h4.out.a.bx.2
      have g0 := HCELL.out w4 gw ns1 lm h4.out.row (by have := HL1.out; omega)
      rw [HN1.out] at g0
      have gz := frozen_row h4.out.row lm
      have gl := heap_lt h4.out.row
      have hne : ¬ (gw = w.heap.size + 1) := by have := h4.out.far; omega
      have HLM := Lib.hid hlm
      have HYD := Lib.hid hyd
      clear hlm hyd
      go_cut [40] (fun v40 wx => Hid (SwB P G w wx bt ng i c j d L M la ln lc gw ns2))
      case first =>
        have HNX : Hid (SwB P G w (w4.setCell ⟨gw, lm, none⟩ (.int .i64 ((n1 : Int) + (yd : Int)))) bt ng i c j d L M la ln lc gw ns2) := by
          have := h4.out.set HP.out (fun k hk => (HG.out k hk).1) lm (n1 + yd)
          rw [HS2.out] at this
          show SwB _ _ _ _ _ _ _ _ _ _ _ _ _ _ _ _ _
          simpa using this
        go_region
        all_goals
          go_wp2_with fail
          go_meet
          exact HNX.out.below (Below.refl _ _).drew
      case rest =>
        clear b11 lb1 g0 gz gl hne q1 q2 q3 q4 q5 h4
        obtain ⟨w5, rfl⟩ : ∃ w5, w5 = wc := ⟨_, rfl⟩
        have h5 := hcut
        obtain ⟨F1, F2, tt, np, ps, t1, t2, t3, t4, t5, t6, t7⟩ := h5.out.a.tx
        have T1 := t1.mono (Q := fun k => F1 k ∨ w5.heap.size ≤ k) (fun k hk => .inl hk) (Nat.le_refl _) (Nat.le_refl _)
        have hS5 := h5.out.a.bl.size
        have hfar := h5.out.far
        have hgl := heap_lt h5.out.row
        have hL' := HLP.out
        have hoffj : offN L j d = a + m := by have := HA'.out; have := HM'.out; have := hle2.out; omega
        have hsj : joinL L' = (joinL L).take a ++ (joinL M ++ (joinL L).drop (a + m)) := by
          rw [← hL', swap_join HX.out hc HY.out (by rw [HYL.out]; exact hd) HM.out]
          have e1 := HA'.out
          unfold offN at e1 hoffj
          rw [e1, hoffj]
        have hL'ne : L' ≠ [] := by rw [← hL']; exact swap_ne HM.out
        have hL'pl : plainL L' := by rw [← hL']; exact swap_plain t7 HMP.out (List.mem_of_getElem? HX.out) (List.mem_of_getElem? HY.out)
        have hrowl := hrow2.out
        have hamr : a + m ≤ (joinL L).length := by rw [← hoffj]; exact hlast2.out
        have hroom := HROOM.out
        rw [HM'.out] at hroom
        have hMj : (joinL M).length ≤ 65536 := by omega
        have e6 : delM (joinL L) (a : Nat) (m : Nat) = ((joinL L).take a ++ (joinL L).drop (a + m), 0) := by
          unfold delM
          rw [hasB_iff.2 ⟨by omega, by omega, by omega⟩, if_pos rfl, Int.toNat_natCast, Int.toNat_natCast]
        obtain ⟨row6, hrow6⟩ : ∃ row6, (joinL L).take a ++ (joinL L).drop (a + m) = row6 := ⟨_, rfl⟩
        have hr6l : row6.length = (joinL L).length - m := by rw [← hrow6]; simp only [List.length_append, List.length_take, List.length_drop]; omega
        have e8 : insM row6 (a : Nat) (joinL M) = (joinL L', 0) := by
          unfold insM
          rw [hasB_iff.2 ⟨by omega, by omega, by omega⟩, if_pos rfl, if_neg (by omega), Int.toNat_natCast, hsj, ← hrow6]
          congr 2
          · rw [List.take_append_of_le_length (by rw [List.length_take]; omega), List.take_take, Nat.min_self]
          · congr 1
            rw [List.drop_append_of_le_length (by rw [List.length_take]; omega), List.drop_eq_nil_of_le (by rw [List.length_take]; omega), List.nil_append]
        rw [hrow6] at e6
        have hL'r : (joinL L').length ≤ 65536 := by rw [hsj]; simp only [List.length_append, List.length_take, List.length_drop]; omega
        have hL's := joinL_len hL'ne
        have hTG : (lens L).take i ++ (ns2 ++ (lens L).drop (i + (j - i + 1))) = lens L' := by
          rw [← hL', swap_lens, HN.out, show i + (j - i + 1) = j + 1 from by omega]
          congr 2
          have hml : M.length = ln := hMl2.out
          rw [hml, modify_set ns 0 (x.take c).length (by have := HL0.out; omega), HN0.out, List.length_take, Nat.min_eq_left hc, HS1.out, modify_set ns1 (ln - 1) _ (by have := HL1.out; omega), List.length_drop, HYL.out, ← HS2.out, ← HN1.out, ← HLM.out, ← HYD.out]
        have hF2w : ∀ k, F2 k → k < w.heap.size := fun k hk => HP.out k (t5 k hk)
        have hF2d : ∀ k, F2 k → ¬ (F1 k ∨ w5.heap.size ≤ k) := fun k hk h => by
          rcases h with h | h
          · exact (t4 k h).2 hk
          · have := hF2w k hk; omega
        have hGd : ∀ k, G k → ¬ (F1 k ∨ w5.heap.size ≤ k) := fun k hk h => by
          have := HG.out k hk
          rcases h with h | h
          · exact this.2 (t4 k h).1
          · omega
        obtain ⟨a2, c2, x1, _⟩ := t2.ex
        have c50 : w5.cell? ⟨bt, 0, none⟩ = some (ifv tt) := cell_row x1 0
        have hbt5 := heap_lt x1
        have hbtF2 := t2.inF
        have HKC : Hid (∀ W, Fr (fun k => F1 k ∨ w5.heap.size ≤ k) w5 W → W.cell? ⟨bt, 0, none⟩ = some (ifv tt) ∧ bt < W.heap.size) := fun W hW =>
          ⟨(World.cell?_of_block (a := ⟨bt, 0, none⟩) (hW.block bt hbt5 (hF2d bt hbtF2))).trans c50, by have := hW.size; omega⟩
        have HDEL : Hid (Calls Try.prog 103 #[.pointer (some ⟨tt, 0, none⟩), .int .i64 (a : Nat), .int .i64 (m : Nat)] w5 fun e w6 => e = .returned (.int .i64 0) ∧ w6.cell? ⟨bt, 0, none⟩ = some (ifv tt) ∧ bt < w6.heap.size ∧
            Hid (Fr (fun k => F1 k ∨ w5.heap.size ≤ k) w5 w6 ∧ ∃ np, TS (fun k => F1 k ∨ w5.heap.size ≤ k) w6 tt row6 [] np ng)) := by
          have := ts_delete _ tt (joinL L) [] np ng (a : Nat) (m : Nat) w5 T1 (fun k hk => .inr hk) (by unfold i64b; omega) (by unfold i64b; omega) (by omega)
          rw [e6] at this
          refine this.mono ?_
          rintro e w6 ⟨rfl, hts, hf⟩
          obtain ⟨q1, q2⟩ := HKC.out w6 hf
          exact ⟨rfl, q1, q2, hf, _, hts⟩
        have HJ : Hid (∀ w6, Hid (Fr (fun k => F1 k ∨ w5.heap.size ≤ k) w5 w6 ∧ ∃ np, TS (fun k => F1 k ∨ w5.heap.size ≤ k) w6 tt row6 [] np ng) → ∀ W, Below w6.heap.size w6 W → Calls Try.prog 43 #[.slice la ln lc] W fun e w7 => ∃ ja jl jc, e = .returned (.slice ja jl jc) ∧ w7.cell? ⟨bt, 0, none⟩ = some (ifv tt) ∧ bt < w7.heap.size ∧
            Hid (Fr (fun k => F1 k ∨ w5.heap.size ≤ k) w5 w6 ∧ Below w6.heap.size w6 w7 ∧ (∃ np, TS (fun k => F1 k ∨ w5.heap.size ≤ k) w7 tt row6 [] np ng) ∧ Rd .i32 w7 ja jl jc (joinL M))) := by
          intro w6 hh W hW
          obtain ⟨hf, np6, hts⟩ := hh.out
          have hrd : RdL G W la ln lc M := (h5.out.a.rd.frF hf hGd).below hW
          refine (joined_any G la ln lc M W hrd (by have := joinL_len HM.out; omega)).mono ?_
          rintro e w7 ⟨ja, jc, rfl, ho, hb⟩
          have hb7 := hW.trans (hb.mono hW.size)
          obtain ⟨q1, q2⟩ := HKC.out w7 (hf.trans (Fr.of_below (fun _ => False) hb7) (fun _ _ h => h.elim))
          exact ⟨ja, _, jc, rfl, q1, q2, hf, hb7, ⟨np6, hts.below hb7⟩, own_rd ho (rdl_wf hrd)⟩
        have HI : Hid (∀ w6 w7 ja jl jc, Hid (Fr (fun k => F1 k ∨ w5.heap.size ≤ k) w5 w6 ∧ Below w6.heap.size w6 w7 ∧ (∃ np, TS (fun k => F1 k ∨ w5.heap.size ≤ k) w7 tt row6 [] np ng) ∧ Rd .i32 w7 ja jl jc (joinL M)) → Calls Try.prog 104 #[.pointer (some ⟨tt, 0, none⟩), .int .i64 (a : Nat), .slice ja jl jc] w7 fun e w8 => e = .returned (.int .i64 0) ∧
            Hid (Fr (fun k => F1 k ∨ w5.heap.size ≤ k) w5 w6 ∧ Below w6.heap.size w6 w7 ∧ Fr (fun k => F1 k ∨ w5.heap.size ≤ k) w7 w8 ∧ ∃ np, TS (fun k => F1 k ∨ w5.heap.size ≤ k) w8 tt (joinL L') [] np (ng + 65536))) := by
          intro w6 w7 ja jl jc hh
          obtain ⟨hf, hb7, ⟨np6, hts⟩, hrd⟩ := hh.out
          have hjl := hrd.1
          have hs7 := hb7.size
          have hs6 := hf.size
          have := ts_insert _ tt row6 [] np6 ng ja jl jc (joinL M) (a : Nat) w7 hts (fun k hk => .inr (by omega)) hrd (by unfold i64b; omega) (by omega)
          rw [e8] at this
          refine this.mono ?_
          rintro e w8 ⟨rfl, hts8, hf8⟩
          exact ⟨rfl, hf, hb7, hf8, _, hts8.mono (fun _ h => h) (Nat.le_refl _) (by omega)⟩
        have HR : Hid (∀ w6 w7 W, Fr (fun k => F1 k ∨ w5.heap.size ≤ k) w5 w6 ∧ Below w6.heap.size w6 w7 ∧ Fr (fun k => F1 k ∨ w5.heap.size ≤ k) w7 W ∧ (∃ np, TS (fun k => F1 k ∨ w5.heap.size ≤ k) W tt (joinL L') [] np (ng + 65536)) → Calls Try.prog 44 #[.pointer (some ⟨bt, 1, none⟩), .int .i64 (i : Nat), .int .i64 ((j - i + 1 : Nat) : Int), .slice (some ⟨gw, 0, none⟩) ln ln] W fun e w9 => e = .returned (.tuple #[]) ∧
            Hid (TX (fun k => P k ∨ w.heap.size ≤ k) w9 bt L' (ng + 65536) ∧ Fr P w w9)) := by
          rintro w6 w7 W ⟨hf6, hb7, hf8, np8, hts8⟩
          have hfW : Fr (fun k => F1 k ∨ w5.heap.size ≤ k) w5 W := (hf6.trans (Fr.of_below (fun _ => False) hb7) (fun _ _ h => h.elim)).trans hf8 (fun _ _ h => h)
          have hsW := hfW.size
          have hgwn : ¬ (F1 gw ∨ w5.heap.size ≤ gw) := fun h => by
            rcases h with h | h
            · have := HP.out gw (t4 gw h).1; omega
            · omega
          have hrow : W.heap[gw]? = some (.cells (nats ns2).toArray 3 (0, 0)) := (hfW.block gw hgl hgwn).trans h5.out.row
          have hl2 : ns2.length = ln := by rw [← HS2.out, List.length_set, HL1.out]
          have hrd := rdn_heap hrow (by omega)
          rw [hl2] at hrd
          have hjl := (List.getElem?_eq_some_iff.1 HY.out).1
          have hcn2 := hcn3.out
          refine (treplace_any F2 (fun k => k = gw ∨ W.heap.size ≤ k) bt (ifv tt) ps L.length i (j - i + 1) ns2 (lens L') (some ⟨gw, 0, none⟩) ln ln W (t2.fr hfW hF2d) ?_ (fun k hk => .inr hk) hrd ?_ hln0 (by omega) (by omega) (by rw [t3]; exact hTG) (by omega) (by omega)).mono ?_
          · rintro k hk hF
            have := hF2w k hF
            rcases hk with h | h <;> omega
          · intro _ ad e
            cases e
            exact .inl rfl
          · intro e w9 hp
            refine ⟨hp.1, ?_⟩
            exact swap_fin HP.out h5.out.a.bl t4 t5 (by omega) hgl hf6 hb7 hf8 hts8 ⟨rfl, hp.2⟩ rfl hL'ne hL'pl
        have HBX : Hid (∀ W, Fr (fun k => F1 k ∨ w5.heap.size ≤ k) w5 W → Boxes w W i c j d) := fun W hW => h5.out.a.bx.fr hW (fun h => by
          rcases h with h | h
          · have := HP.out _ (t4 _ h).1; omega
          · omega) (fun h => by
          rcases h with h | h
          · have := HP.out _ (t4 _ h).1; omega
          · omega)
        unfold ifv at HKC HDEL HJ c50
        clear t1 t2 t3 t4 t5 t6 t7 T1 x1 hsj hL'ne hL'pl hroom e6 e8 hrow6 hr6l hTG hF2w hF2d hGd hbtF2 h5 hL'
        go_wp2_with (go_at_call 103; refine HDEL.out.mono ?_; rintro e w6 ⟨rfl, c60, l60, h6⟩)
        go_cut [62] (fun v62 wx => Hid (∃ w6 w7, Fr (fun k => F1 k ∨ w5.heap.size ≤ k) w5 w6 ∧ Below w6.heap.size w6 w7 ∧ Fr (fun k => F1 k ∨ w5.heap.size ≤ k) w7 wx ∧ ∃ np, TS (fun k => F1 k ∨ w5.heap.size ≤ k) wx tt (joinL L') [] np (ng + 65536)))
        case first =>
          go_region_with (first
            | (go_at_call 43; refine (HJ.out w6 h6 _ (by first | exact Below.refl _ _ | exact (Below.refl _ _).drew)).mono ?_; rintro e w7 ⟨ja, jl, jc, rfl, c70, l70, h7⟩)
            | (go_at_call 104; refine (HI.out w6 w7 ja jl jc h7).mono ?_; rintro e w8 ⟨rfl, h8⟩))
          all_goals
            go_wp2_with fail
            go_meet
            exact ⟨w6, w7, h8.out⟩
        case rest =>
          obtain ⟨w6', w7', hf6', hb7', hf8', hts8'⟩ := hcut.out
          have hfW := (hf6'.trans (Fr.of_below (fun _ => False) hb7') (fun _ _ h => h.elim)).trans hf8' (fun _ _ h => h)
          have bx8 := HBX.out _ hfW
          have b00 : wc.cell? ⟨w.heap.size, 0, none⟩ = some (.int .i64 (i : Nat)) := cell_row bx8.1 0
          have b10 : wc.cell? ⟨w.heap.size + 1, 0, none⟩ = some (.int .i64 (j : Nat)) := cell_row bx8.2 0
          have lb0 := heap_lt bx8.1
          have lb1 := heap_lt bx8.2
          have HRD : Hid (∀ W, Below wc.heap.size wc W → Calls Try.prog 44 #[.pointer (some ⟨bt, 1, none⟩), .int .i64 (i : Nat), .int .i64 ((j - i + 1 : Nat) : Int), .slice (some ⟨gw, 0, none⟩) ln ln] W fun e w9 => e = .returned (.tuple #[]) ∧
              Hid (TX (fun k => P k ∨ w.heap.size ≤ k) w9 bt L' (ng + 65536) ∧ Fr P w w9)) := by
            intro W hW
            obtain ⟨np, hts⟩ := hts8'
            exact HR.out w6' w7' W ⟨hf6', hb7', hf8'.trans (Fr.of_below (fun _ => False) hW) (fun _ _ h => h.elim), np, hts.below hW⟩
          obtain ⟨ji, hji⟩ : ∃ ji, j - i = ji := ⟨_, rfl⟩
          obtain ⟨kn, hkn⟩ : ∃ kn, ji + 1 = kn := ⟨_, rfl⟩
          rw [hji, hkn] at HRD
          have q1 : IntKind.i64.wrap ((j : Int) - (i : Int)) = (ji : Int) := by rw [IntKind.wrap_i64]; omega
          have q2 : IntKind.i64.wrap ((ji : Int) + 1) = (kn : Int) := by rw [IntKind.wrap_i64]; omega
          clear hcut hfW bx8 hf6' hb7' hf8' hts8' hji hkn HBX HR HI HJ HDEL
          go_wp2_with fail
          go_still_tail 12, (by kernel_rfl)
          change wpList _ _ _ _ _ wc.drew
          go_wp2_with (go_at_call 44; refine (HRD.out _ (Below.refl _ _).drew).mono ?_; rintro e w9 ⟨rfl, h9⟩)
          go_end0
          exact ⟨rfl, h9.out⟩
end Go.Proofs.Ytndlebopfojjeaa.U
