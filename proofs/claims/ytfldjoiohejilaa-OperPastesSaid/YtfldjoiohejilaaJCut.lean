/-
  The document's Cut.
-/
import Derived.Test.YtfldjoiohejilaaJCutS
namespace Go.Proofs.Ytfldjoiohejilaa.U
open Go.RowKit
set_option linter.unusedVariables false
set_option linter.unusedSimpArgs false
set_option maxRecDepth 100000

/-- Cut behind its loop -/
structure CuE (w : World) (b d : Nat) (p q : Pl) (k : Int) (ra : Option Addr) (m rc : Nat) (O : List (List Int)) (W : World) : Prop where
  rg : W.heap[b]? = some (.cells #[.int .i64 (p.1 : Nat), .int .i64 (p.2 : Nat), .int .i64 (q.1 : Nat), .int .i64 (q.2 : Nat), .int .i64 k] 26 (0, 0))
  z : W.heap[b + 1]? = some (.cells #[.int .i64 0, .int .i64 0] 24 (0, 0))
  eA : W.heap[d]? = some (.cells #[.int .i64 ((endsR p q).1.1 : Nat), .int .i64 ((endsR p q).1.2 : Nat)] 24 (0, 0))
  eB : W.heap[d + 1]? = some (.cells #[.int .i64 ((endsR p q).2.1 : Nat), .int .i64 ((endsR p q).2.2 : Nat)] 24 (0, 0))
  out : MyL (d + 2) W ra m rc O
  hb : Below b w W
  l : d + 2 ≤ W.heap.size
  bd : b + 1 < d
theorem CuE.kept {w : World} {b d : Nat} {p q : Pl} {k : Int} {ra ra' : Option Addr} {m rc m' rc' : Nat} {O O' : List (List Int)} {W W' : World} (h : CuE w b d p q k ra m rc O W) (hb : Below (d + 2) W W') (ho : MyL (d + 2) W' ra' m' rc' O') : CuE w b d p q k ra' m' rc' O' W' := by
  have := h.l
  have := h.bd
  have := hb.size
  exact ⟨(hb.block _ (by omega)).trans h.rg, (hb.block _ (by omega)).trans h.z, (hb.block _ (by omega)).trans h.eA, (hb.block _ (by omega)).trans h.eB, ho, h.hb.trans (hb.mono (by omega)), by omega, h.bd⟩
theorem CuE.below {w : World} {b d : Nat} {p q : Pl} {k : Int} {ra : Option Addr} {m rc : Nat} {O : List (List Int)} {W W' : World} (h : CuE w b d p q k ra m rc O W) (hb : Below W.heap.size W W') : CuE w b d p q k ra m rc O W' := h.kept (hb.mono h.l) (h.out.below hb)
theorem CuS.toE {w : World} {b d : Nat} {L : List (List Int)} {p q : Pl} {k : Int} {j : Nat} {ra : Option Addr} {m rc : Nat} {oa : Option Addr} {N oc : Nat} {W : World} (h : CuS w b d L p q k j ra m rc oa N oc W) : CuE w b d p q k ra m rc (L.take (endsR p q).1.1 ++ if k = 2 then outsL L k p q (endsR p q).1.1 j else []) W :=
  ⟨h.rg, h.z, h.eA, h.eB, h.out.my, h.hb, h.l, h.bd⟩
/-- the row put behind the rows -/
theorem CuS.put {w : World} {b d : Nat} {L : List (List Int)} {p q : Pl} {k : Int} {j : Nat} {ra : Option Addr} {m rc : Nat} {oa : Option Addr} {N oc : Nat} {W : World} (h : CuS w b d L p q k j ra m rc oa N oc W) (hk : k ≠ 2) (hm : m ≤ 1099511627775) :
    ∃ a3 c3 w6, (∀ ty, (Builtin.append_ #[22, 22] ty #[.slice ra m rc, .slice (some ⟨W.heap.size, 0, none⟩) 1 1]).run Try.prog (W.alloc (.cells #[.slice oa N oc] 35)) = .ok (.slice a3 (m + 1) c3) w6) ∧ CuE w b d p q k a3 (m + 1) c3 (L.take (endsR p q).1.1 ++ [(outsL L k p q (endsR p q).1.1 j).flatten]) w6 := by
  have hE := h.toE
  rw [if_neg hk, List.append_nil] at hE
  have ho := h.one
  have hN : (outsL L k p q (endsR p q).1.1 j).flatten.length = N := by have := ho.1; unfold ints at this; rw [List.length_map] at this; omega
  have hal : Below W.heap.size W (W.alloc (.cells #[.slice oa N oc] 35)) := (Below.refl _ _).alloc (Nat.le_refl _) _
  obtain ⟨a3, c3, w6, hrun, h1, h2, _⟩ := myd_app (W.alloc (.cells #[.slice oa N oc] 35)) (d + 2) none ra m rc _ (some ⟨W.heap.size, 0, none⟩) 1 1 [(outsL L k p q (endsR p q).1.1 j).flatten] (hE.out.below hal).myd (myd_one h.l (by rw [hN]; exact ho) (fun g _ e => by cases e)) (by have := hal.size; have := h.l; omega) (by omega)
  exact ⟨a3, c3, w6, hrun, hE.kept ((hal.mono h.l).trans h2) h1.my⟩
/-- what stood behind is put behind -/
theorem CuE.rest {w : World} {b d : Nat} {p q : Pl} {k : Int} {ra : Option Addr} {m rc : Nat} {O : List (List Int)} {W : World} (h : CuE w b d p q k ra m rc O W) (F : Nat → Prop) {da : Option Addr} {dn dc : Nat} {M : List (List Int)} (hr : RdL F W da dn dc M) (hs : sizeN (lens M) ≤ 1048576) (hm : m ≤ 549755813888) :
    Calls Try.prog 12 #[.slice da dn dc] W fun e w' => ∃ ta tc, e = .returned (.slice ta dn tc) ∧ ∃ a' c' W', Hid (∀ ty, (Builtin.append_ #[22, 22] ty #[.slice ra m rc, .slice ta dn tc]).run Try.prog w' = .ok (.slice a' (m + dn) c') W') ∧ CuE w b d p q k a' (m + dn) c' (O ++ M) W' := by
  refine (rtwin_any F da dn dc M W hr hs).mono ?_
  rintro e w' ⟨ta, tc, rfl, hf, hb⟩
  have hdn : dn ≤ 1048576 := by have := hr.len; have := size_count M; omega
  have hs2 := hb.size
  obtain ⟨a', c', W', hrun, h1, h2⟩ := my_app w' (d + 2) ra m rc O ta dn tc M (h.out.below hb) (hf.my h.l) (by have := h.l; omega) (by omega)
  exact ⟨ta, tc, rfl, a', c', W', hrun, (h.below hb).kept h2 h1⟩
theorem cutL_one {L : List (List Int)} {p q : Pl} : cutL L p q 1 = L.take (endsR p q).1.1 ++ L.drop ((endsR p q).2.1 + 1) := by
  unfold cutL
  rw [if_neg (by decide), if_neg (by decide), List.append_nil]
theorem cutL_two {L : List (List Int)} {p q : Pl} : cutL L p q 2 = L.take (endsR p q).1.1 ++ outsL L 2 p q (endsR p q).1.1 (overN p q) ++ L.drop ((endsR p q).2.1 + 1) := by
  unfold cutL
  rw [if_pos rfl]
theorem cutL_zero {L : List (List Int)} {p q : Pl} : cutL L p q 0 = L.take (endsR p q).1.1 ++ [(outsL L 0 p q (endsR p q).1.1 (overN p q)).flatten] ++ L.drop ((endsR p q).2.1 + 1) := by
  unfold cutL
  rw [if_neg (by decide), if_pos rfl]
theorem cutL_wf {F : Nat → Prop} {w : World} {a : Option Addr} {n c : Nat} {L : List (List Int)} (h : RdL F w a n c L) (k : Int) (p q : Pl) : ∀ x ∈ cutL L p q k, ∀ y ∈ x, (Lit.int .i32 y).wf = true := by
  have hw := lines_wf (rdl_wf h)
  have hout : ∀ m, ∀ x ∈ outsL L k p q (endsR p q).1.1 m, ∀ y ∈ x, (Lit.int .i32 y).wf = true := by
    intro m x hx
    obtain ⟨j, _, rfl⟩ := List.mem_map.1 hx
    exact outL_wf h k p q _
  intro x hx
  unfold cutL at hx
  rcases List.mem_append.1 hx with hx | hx
  · rcases List.mem_append.1 hx with hx | hx
    · exact hw x (List.mem_of_mem_take hx)
    · split at hx
      · exact hout _ x hx
      · split at hx
        · rw [List.mem_singleton] at hx
          subst hx
          intro y hy
          obtain ⟨z, hz, hyz⟩ := List.mem_flatten.1 hy
          exact hout _ z hz y hyz
        · cases hx
  · exact hw x (List.mem_of_mem_drop hx)
/-- the cells of Cut's boxes -/
structure CuC (b d : Nat) (k : Int) (A B : Pl) (W : World) : Prop where
  c4 : W.cell? ⟨b, 4, none⟩ = some (.int .i64 k)
  a0 : W.cell? ⟨d, 0, none⟩ = some (.int .i64 (A.1 : Nat))
  a1 : W.cell? ⟨d, 1, none⟩ = some (.int .i64 (A.2 : Nat))
  b0 : W.cell? ⟨d + 1, 0, none⟩ = some (.int .i64 (B.1 : Nat))
  b1 : W.cell? ⟨d + 1, 1, none⟩ = some (.int .i64 (B.2 : Nat))
  z0 : W.cell? ⟨b + 1, 0, none⟩ = some (.int .i64 0)
  z1 : W.cell? ⟨b + 1, 1, none⟩ = some (.int .i64 0)
  y0 : W.frozen? ⟨b + 1, 0, none⟩ = false
  y1 : W.frozen? ⟨b + 1, 1, none⟩ = false
  ya : W.frozen? ⟨d, 1, none⟩ = false
  l0 : b < W.heap.size
  l1 : b + 1 < W.heap.size
  l2 : d < W.heap.size
  l3 : d + 1 < W.heap.size
theorem CuE.cells {w : World} {b d : Nat} {p q : Pl} {k : Int} {ra : Option Addr} {m rc : Nat} {O : List (List Int)} {W : World} (h : CuE w b d p q k ra m rc O W) : CuC b d k (endsR p q).1 (endsR p q).2 W :=
  ⟨cell_row h.rg 4, cell_row h.eA 0, cell_row h.eA 1, cell_row h.eB 0, cell_row h.eB 1, cell_row h.z 0, cell_row h.z 1, frozen_row h.z 0, frozen_row h.z 1, frozen_row h.eA 1, heap_lt h.rg, heap_lt h.z, heap_lt h.eA, heap_lt h.eB⟩
/-- Cut, where its lines are done -/
structure CuF (w : World) (b d : Nat) (ra : Option Addr) (m rc : Nat) (O : List (List Int)) (W : World) : Prop where
  z : W.heap[b + 1]? = some (.cells #[.int .i64 0, .int .i64 0] 24 (0, 0))
  rd : RdL (fun x => d + 2 ≤ x) W ra m rc O
  hb : Below b w W
  l : d + 2 ≤ W.heap.size
  bd : b + 1 < d
theorem CuE.toF {w : World} {b d : Nat} {p q : Pl} {k : Int} {ra : Option Addr} {m rc : Nat} {O : List (List Int)} {W : World} (h : CuE w b d p q k ra m rc O W) (hw : ∀ x ∈ O, ∀ y ∈ x, (Lit.int .i32 y).wf = true) : CuF w b d ra m rc O W := ⟨h.z, h.out.rdl hw, h.hb, h.l, h.bd⟩
theorem CuF.below {w : World} {b d : Nat} {ra : Option Addr} {m rc : Nat} {O : List (List Int)} {W W' : World} (h : CuF w b d ra m rc O W) (hb : Below W.heap.size W W') : CuF w b d ra m rc O W' := by
  have := h.l
  have := h.bd
  have := hb.size
  exact ⟨(hb.block _ (by omega)).trans h.z, h.rd.below hb, h.hb.trans (hb.mono (by omega)), by omega, h.bd⟩
theorem CuF.set {w : World} {b d : Nat} {ra : Option Addr} {m rc : Nat} {O : List (List Int)} {W : World} (h : CuF w b d ra m rc O W) (v : Value) : CuF w b d ra m rc O (W.setCell ⟨d, 1, none⟩ v) := by
  have := h.l
  have := h.bd
  have hfr : Fr (fun k => k = d) W (W.setCell ⟨d, 1, none⟩ v) := (Fr.refl (fun k => k = d) W).setCell ⟨d, 1, none⟩ _ (fun _ => rfl)
  exact ⟨(Below.heap_setCell _ _ _ _ (by show ¬ _ = _; simp; omega)).trans h.z, h.rd.frF hfr (fun k h1 h2 => by omega), setCell_below h.hb _ _ _ (by omega), by simpa using h.l, h.bd⟩
theorem CuF.fin {w : World} {b d : Nat} {ra : Option Addr} {m rc : Nat} {O : List (List Int)} {W : World} (h : CuF w b d ra m rc O W) (u v : Value) :
    RdL (fun x => b ≤ x) ((W.setCell ⟨b + 1, 0, none⟩ u).setCell ⟨b + 1, 1, none⟩ v) ra m rc O ∧ Below b w ((W.setCell ⟨b + 1, 0, none⟩ u).setCell ⟨b + 1, 1, none⟩ v) := by
  have := h.l
  have := h.bd
  have hfr : Fr (fun k => k = b + 1) W ((W.setCell ⟨b + 1, 0, none⟩ u).setCell ⟨b + 1, 1, none⟩ v) := ((Fr.refl (fun k => k = b + 1) W).setCell ⟨b + 1, 0, none⟩ _ (fun _ => rfl)).setCell ⟨b + 1, 1, none⟩ _ (fun _ => rfl)
  exact ⟨(h.rd.frF hfr (fun k h1 h2 => by omega)).mono (fun k hk => by omega), setCell_below (setCell_below h.hb _ _ _ (by omega)) _ _ _ (by omega)⟩
/-- the cells of the place that is told -/
structure CuZ (b : Nat) (W : World) : Prop where
  z0 : W.cell? ⟨b + 1, 0, none⟩ = some (.int .i64 0)
  z1 : W.cell? ⟨b + 1, 1, none⟩ = some (.int .i64 0)
  y0 : W.frozen? ⟨b + 1, 0, none⟩ = false
  y1 : W.frozen? ⟨b + 1, 1, none⟩ = false
  l1 : b + 1 < W.heap.size
theorem CuF.cells {w : World} {b d : Nat} {ra : Option Addr} {m rc : Nat} {O : List (List Int)} {W : World} (h : CuF w b d ra m rc O W) : CuZ b W := ⟨cell_row h.z 0, cell_row h.z 1, frozen_row h.z 0, frozen_row h.z 1, heap_lt h.z⟩
theorem CuF.clip {w : World} {b d : Nat} {ra : Option Addr} {m rc : Nat} {O : List (List Int)} {W : World} (h : CuF w b d ra m rc O W) (x y : Nat) (hx : x ≤ 1048576) (hy : y ≤ 1048576) :
    Calls Try.prog 32 #[.slice ra m rc, .agg #[.int .i64 (x : Nat), .int .i64 (y : Nat)]] W fun e w' => e = .returned (.agg #[.int .i64 ((clipP O (x : Int) (y : Int)).1 : Nat), .int .i64 ((clipP O (x : Int) (y : Int)).2 : Nat)]) ∧ CuZ b w' ∧ Hid (CuF w b d ra m rc O w') := by
  refine (rclip_any _ ra m rc O ⟨(x : Int), (y : Int)⟩ W h.rd ⟨⟨by show _ ≤ (x : Int); omega, by show (x : Int) ≤ _; omega⟩, ⟨by show _ ≤ (y : Int); omega, by show (y : Int) ≤ _; omega⟩⟩).mono ?_
  rintro e w' ⟨rfl, hb⟩
  exact ⟨rfl, (h.below hb).cells, h.below hb⟩
theorem cut_end {w : World} {b d : Nat} {ra : Option Addr} {m rc : Nat} {M : List (List Int)} {W : World} (h : CuF w b d ra m rc M W) (Q : Pl) (u v : Value) :
    ∃ ra' rc', Ending.returned (.tuple #[.slice ra m rc, plV Q, .int .i64 0]) = Ending.returned (.tuple #[.slice ra' M.length rc', plV Q, .int .i64 0]) ∧ RdL (fun x => b ≤ x) ((W.setCell ⟨b + 1, 0, none⟩ u).setCell ⟨b + 1, 1, none⟩ v) ra' M.length rc' M ∧ Below b w ((W.setCell ⟨b + 1, 0, none⟩ u).setCell ⟨b + 1, 1, none⟩ v) := by
  have hl := h.rd.len
  subst hl
  exact ⟨ra, rc, rfl, h.fin u v⟩
theorem cut_end2 {w : World} {b d : Nat} {ra : Option Addr} {m rc : Nat} {M : List (List Int)} {W : World} (h : CuF w b d ra m rc M W) (Q : Pl) (u v : Value) :
    ∃ ra' rc', Ending.returned (.tuple #[.slice (some ⟨W.heap.size, 0, none⟩) 1 1, plV Q, .int .i64 0]) = Ending.returned (.tuple #[.slice ra' ([[]] : List (List Int)).length rc', plV Q, .int .i64 0]) ∧ RdL (fun x => b ≤ x) (((W.setCell ⟨b + 1, 0, none⟩ u).setCell ⟨b + 1, 1, none⟩ v).alloc (.cells #[.slice none 0 0] 35)) ra' ([[]] : List (List Int)).length rc' [[]] ∧ Below b w (((W.setCell ⟨b + 1, 0, none⟩ u).setCell ⟨b + 1, 1, none⟩ v).alloc (.cells #[.slice none 0 0] 35)) := by
  have hb := (h.fin u v).2
  have hl := h.l
  have hbd := h.bd
  have h1 := one_rdl0 ((W.setCell ⟨b + 1, 0, none⟩ u).setCell ⟨b + 1, 1, none⟩ v)
  have hs : ((W.setCell ⟨b + 1, 0, none⟩ u).setCell ⟨b + 1, 1, none⟩ v).heap.size = W.heap.size := by simp
  rw [hs] at h1
  exact ⟨some ⟨W.heap.size, 0, none⟩, 1, rfl, h1.mono (fun k hk => by omega), hb.alloc (by rw [hs]; omega) _⟩
theorem ends_min (p q : Pl) : min (endsR p q).1.2 (endsR p q).2.2 = min p.2 q.2 := by
  unfold endsR
  split
  · rw [Nat.min_comm]
  · rfl
set_option maxHeartbeats 4000000 in
/-- Cut of a region that is there -/
theorem rcut_ok (F : Nat → Prop) (a : Option Addr) (n c : Nat) (L : List (List Int)) (p q : Pl) (k : Int) (w : World) (h : RdL F w a n c L) (hs : sizeN (lens L) ≤ 1048576) (hp : okP L p) (hq : okP L q) (h1 : 0 ≤ k) (h2 : k ≤ 2) :
    Calls Try.prog 19 #[.slice a n c, rgnV p q k] w fun e w' => ∃ ra rc, e = .returned (.tuple #[.slice ra (cutM L p q k).length rc, plV (cutQ (cutM L p q k) p q k), .int .i64 0]) ∧ RdL (fun x => w.heap.size ≤ x) w' ra (cutM L p q k).length rc (cutM L p q k) ∧ Below w.heap.size w w' := by
  have hth := there_up (k := k) hp hq h1 h2
  have hpi := i64_okP h hs hp
  have hqi := i64_okP h hs hq
  obtain ⟨hoA, hoB⟩ := endsR_ok hp hq
  have hle := endsR_le p q
  have hl := h.len
  have hsm := h.small
  have hnc : n ≤ c ∧ c ≤ 9223372036854775807 := by obtain ⟨vs, h1, _⟩ := h; have := h1.2.1; have := h1.2.2.1; unfold maxLen at this; exact ⟨by omega, by omega⟩
  obtain ⟨hnc, hcs⟩ := hnc
  have hn1 : n ≤ 1048576 := by have := size_count L; omega
  have hend := rends_any p q k
  have hpart := fun (i : Nat) (x : List Int) (W : World) (hR : RdL F W a n c L) (hx : L[i]? = some x) (hl : x.length ≤ 1048576) => rparted_any F a n c L i x p q k W hR hx hl
  have hBi := i64_okP h hs hoB
  have hAi := i64_okP h hs hoA
  obtain ⟨A1, hA1⟩ : ∃ A1, (endsR p q).1.1 = A1 := ⟨_, rfl⟩
  obtain ⟨B1, hB1⟩ : ∃ B1, (endsR p q).2.1 = B1 := ⟨_, rfl⟩
  obtain ⟨B2, hB2⟩ : ∃ B2, (endsR p q).2.2 = B2 := ⟨_, rfl⟩
  obtain ⟨A2, hA2⟩ : ∃ A2, (endsR p q).1.2 = A2 := ⟨_, rfl⟩
  have hov : overN p q = B1 + 1 - A1 := by unfold overN; rw [hA1, hB1]
  rw [hA1, hB1] at hle
  rw [hB1, hB2] at hBi
  rw [hA1, hA2] at hAi
  have hAn : A1 < n := by have := hoA.1; rw [hA1] at this; omega
  have hBn : B1 < n := by have := hoB.1; rw [hB1] at this; omega
  have hendE : endsR p q = ((A1, A2), (B1, B2)) := by rw [← hA1, ← hA2, ← hB1, ← hB2]
  rw [hendE] at hend
  unfold rgnV
  obtain ⟨wb, hwb⟩ : ∃ wb, (w.alloc (.cells #[.int .i64 (p.1 : Nat), .int .i64 (p.2 : Nat), .int .i64 (q.1 : Nat), .int .i64 (q.2 : Nat), .int .i64 k] 26)).alloc (.cells #[.int .i64 0, .int .i64 0] 24) = wb := ⟨_, rfl⟩
  have hnew := two_new w #[.int .i64 (p.1 : Nat), .int .i64 (p.2 : Nat), .int .i64 (q.1 : Nat), .int .i64 (q.2 : Nat), .int .i64 k] #[.int .i64 0, .int .i64 0] 26 24
  rw [hwb] at hnew
  have hsz : wb.heap.size = w.heap.size + 2 := by rw [← hwb]; simp
  have hB : Below w.heap.size w wb := by rw [← hwb]; exact ((Below.refl _ _).alloc (Nat.le_refl _) _).alloc (by simp) _
  rw [← hsz] at hnew
  obtain ⟨b, hbe⟩ : ∃ b, w.heap.size = b := ⟨_, rfl⟩
  have HC : Hid (∀ W, W = wb → Calls Try.prog 42 #[.slice a n c, .agg #[.int .i64 (p.1 : Nat), .int .i64 (p.2 : Nat), .int .i64 (q.1 : Nat), .int .i64 (q.2 : Nat), .int .i64 k]] W fun e w' => e = .returned (.int .i64 0) ∧ RgB b ⟨upP p, upP q, k⟩ w' ∧ Hid (Below wb.heap.size wb w')) := by
    rintro W rfl
    refine (rthereR_any F a n c L ⟨upP p, upP q, k⟩ 0 W (h.below hB) ⟨⟨⟨by show _ ≤ (p.1 : Int); omega, by show (p.1 : Int) ≤ _; omega⟩, ⟨by show _ ≤ (p.2 : Int); omega, by show (p.2 : Int) ≤ _; omega⟩⟩, ⟨⟨by show _ ≤ (q.1 : Int); omega, by show (q.1 : Int) ≤ _; omega⟩, ⟨by show _ ≤ (q.2 : Int); omega, by show (q.2 : Int) ≤ _; omega⟩⟩, ⟨by show _ ≤ k; omega, by show k ≤ _; omega⟩⟩ hth.1).mono ?_
    rintro e w' ⟨rfl, hb⟩
    obtain ⟨g1, g2⟩ := hnew w' hb
    rw [hbe] at g1
    exact ⟨rfl, RgB.of g1, hb⟩
  have HE : Hid (∀ W, Hid (Below wb.heap.size wb W) → Calls Try.prog 43 #[.agg #[.int .i64 (p.1 : Nat), .int .i64 (p.2 : Nat), .int .i64 (q.1 : Nat), .int .i64 (q.2 : Nat), .int .i64 k]] W fun e w' => e = .returned (.tuple #[.agg #[.int .i64 (A1 : Nat), .int .i64 (A2 : Nat)], .agg #[.int .i64 (B1 : Nat), .int .i64 (B2 : Nat)]]) ∧
      Hid (∀ W3, W3 = (w'.alloc (.cells #[.int .i64 (A1 : Nat), .int .i64 (A2 : Nat)] 24)).alloc (.cells #[.int .i64 (B1 : Nat), .int .i64 (B2 : Nat)] 24) → Calls Try.prog 12 #[.slice a A1 c] W3 fun e w5 => ∃ ta tc, e = .returned (.slice ta A1 tc) ∧ w5.cell? ⟨w'.heap.size, 0, none⟩ = some (.int .i64 (A1 : Nat)) ∧ w'.heap.size < w5.heap.size ∧ Hid (CuS w b w'.heap.size L p q k 0 ta A1 tc none 0 0 w5))) := by
    intro W hW
    refine (hend W).mono ?_
    rintro e w' ⟨rfl, hb⟩
    have hb2 : Below wb.heap.size wb w' := hW.out.trans (hb.mono hW.out.size)
    have hz2 := hb2.size
    refine ⟨rfl, ?_⟩
    rintro W3 hW3
    obtain ⟨q1, q2⟩ := two_new w' _ _ _ _ W3 (by rw [hW3]; exact Below.refl _ _)
    have hb3 : Below w'.heap.size w' W3 := by rw [hW3]; exact ((Below.refl _ _).alloc (Nat.le_refl _) _).alloc (by simp) _
    have hs3 : W3.heap.size = w'.heap.size + 2 := by rw [hW3]; simp
    have hbw : Below w.heap.size w W3 := (hB.trans (hb2.mono (by omega))).trans (hb3.mono (by omega))
    refine (rtwin_any F a A1 c (L.take A1) W3 ((h.below hbw).take A1 (by omega)) (by have := size_take_le L A1; omega)).mono ?_
    rintro e w5 ⟨ta, tc, rfl, hf, hb5⟩
    obtain ⟨g1, g2⟩ := hnew w5 (hb2.trans ((hb3.trans (hb5.mono (by omega))).mono (by omega)))
    rw [hbe] at g1 g2
    have e1 := (hb5.block _ (by omega)).trans q1
    have e2 := (hb5.block _ (by omega)).trans q2
    have := hb5.size
    refine ⟨ta, tc, rfl, cell_row e1 0, by omega, ⟨g1, g2, by rw [hA1, hA2]; exact e1, by rw [hB1, hB2]; exact e2, ?_, World.ownsRow_nil _ _ _ _, ?_, by omega, by omega⟩⟩
    · have hnil : (if k = 2 then outsL L k p q (endsR p q).1.1 0 else []) = [] := by split <;> rfl
      rw [hnil, List.append_nil, hA1]
      exact hf.myd.mono (by omega)
    · rw [← hbe]; exact hbw.trans (hb5.mono (by have := hbw.size; omega))
  obtain ⟨g1, g2⟩ := hnew wb (Below.refl _ _)
  rw [hbe] at g1
  have f0 := cell_row g1 0
  have f1 := cell_row g1 1
  have f2 := cell_row g1 2
  have f3 := cell_row g1 3
  have f4 := cell_row g1 4
  have fl := heap_lt g1
  have HPT := Lib.hid (And.intro h (And.intro hl hs))
  have HPA := Lib.hid hpart
  have HW := Lib.hid hwb
  have HBE := Lib.hid hbe
  have HB1 := Lib.hid (And.intro hB1 hB2)
  have HA1 := Lib.hid (And.intro hA1 hA2)
  have HOV := Lib.hid hov
  rw [hbe]
  clear hwb hnew hsz hB h g1 g2 hbe hth hp hq hoA hoB hend hpart hB1 hB2 hA1 hA2 hendE hov hs hl
  obtain ⟨p1, p2⟩ := p
  obtain ⟨q1, q2⟩ := q
  simp only at f0 f1 f2 f3 f4 HC HE HPA ⊢
  go_enter Try.func19, Try.ntmps19
  go_upto_region 1 with fail
  rw [HBE.out, HW.out]
  go_upto_region 4 with (go_at_call 42; (refine (HC.out _ rfl).mono ?_); rintro e w1 ⟨rfl, ⟨u0, u1, u2, u3, u4, ul⟩, HB1'⟩; (simp only [upP] at u0 u1 u2 u3 u4))
  clear f0 f1 f2 f3 f4 fl
  go_upto_region 8 with (first
    | (go_at_call 43; (refine (HE.out _ HB1').mono ?_); rintro e w2 ⟨rfl, HT⟩)
    | (go_at_call 12; (refine (HT.out _ rfl).mono ?_); rintro e w5 ⟨ta, tc, rfl, v0, vl, HS⟩))
  obtain ⟨d, hd⟩ : ∃ d, w2.heap.size = d := ⟨_, rfl⟩
  rw [hd] at HS
  rw [hd]
  clear hd u0 u1 u2 u3 u4 ul v0 vl HB1' HC HE HW HT
  go_loopw [10, 11, 12, 13, 14] (fun v10 v11 v12 v13 v14 wr => ∃ (j m N : Nat) (ra : Option Addr) (rc : Nat) (oa : Option Addr) (oc : Nat), v10 = .slice ra m rc ∧ v11 = .slice oa N oc ∧ v12 = .int .i64 ((A1 + j : Nat) : Int) ∧ j ≤ B1 + 1 - A1 ∧ m ≤ A1 + j ∧ N ≤ j * 1048576 ∧ Hid (CuS w b d L (p1, p2) (q1, q2) k j ra m rc oa N oc wr)) (fun _ _ v12 _ _ _ => B1 + 1 - (intOf v12).toNat)
  case atStart => exact ⟨0, A1, 0, ta, tc, none, 0, rfl, rfl, by go_num, by omega, by omega, by omega, HS⟩
  case round =>
    obtain ⟨j, m, N, ra, rc, oa, oc, rfl, rfl, rfl, hj, hmj, hNj, hst⟩ := hrel
    clear HS
    obtain ⟨t1, t2, t3, t4, t5, t6, t7, t8, t9⟩ := hst.out
    rw [HA1.out.1, HA1.out.2] at t3
    rw [HB1.out.1, HB1.out.2] at t4
    have x0 := cell_row t1 0
    have x1 := cell_row t1 1
    have x2 := cell_row t1 2
    have x3 := cell_row t1 3
    have x4 := cell_row t1 4
    have xl := heap_lt t1
    have y0 := cell_row t4 0
    have yl := heap_lt t4
    by_cases hlt : A1 + j ≤ B1
    · by_cases hk : k = 2
      · subst hk
        have hir : A1 + j < n := by omega
        obtain ⟨x, hx⟩ : ∃ x, L[A1 + j]? = some x := ⟨_, List.getElem?_eq_getElem (by have := HPT.out.2.1; omega)⟩
        have hxl : x.length ≤ 1048576 := by
          have hm : x.length ∈ lens L := List.mem_map.2 ⟨_, List.mem_of_getElem? hx, rfl⟩
          have := sizeN_mem hm
          have := HPT.out.2.2
          omega
        have hin : partOut 2 (p1, p2) (q1, q2) (A1 + j) x x.length = outL L 2 (p1, p2) (q1, q2) ((endsR (p1, p2) (q1, q2)).1.1 + j) := by
          rw [HA1.out.1]; unfold outL; rw [lnL_of hx]
        have hml : (partOut 2 (p1, p2) (q1, q2) (A1 + j) x x.length).length ≤ 1048576 := Nat.le_trans (partOut_len _ _ _ _ _ _) hxl
        have hwf : ∀ y ∈ partOut 2 (p1, p2) (q1, q2) (A1 + j) x x.length, (Lit.int .i32 y).wf = true := by rw [hin]; exact outL_wf HPT.out.1 2 _ _ _
        have hNb : N + 1048576 ≤ 17592186044416 := by omega
        have HC : Hid (∀ W, W = wr → Calls Try.prog 44 #[.slice a n c, .int .i64 ((A1 + j : Nat) : Int), .agg #[.int .i64 (p1 : Nat), .int .i64 (p2 : Nat), .int .i64 (q1 : Nat), .int .i64 (q2 : Nat), .int .i64 2]] W fun e w' => ∃ a1 m1 c1 a2 m2 c2, e = .returned (.tuple #[.slice a1 m1 c1, .slice a2 m2 c2]) ∧ w'.cell? ⟨b, 4, none⟩ = some (.int .i64 2) ∧ b < w'.heap.size ∧ m2 ≤ 1048576 ∧
            ∃ a3 c3 w6 a4 c4 w7, Hid (∀ ty, (Builtin.append_ #[22, 22] ty #[.slice ra m rc, .slice (some ⟨w'.heap.size, 0, none⟩) 1 1]).run Try.prog (w'.alloc (.cells #[.slice a2 m2 c2] 35)) = .ok (.slice a3 (m + 1) c3) w6) ∧ Hid (∀ ty, (Builtin.append_ #[35, 35] ty #[.slice oa N oc, .slice a2 m2 c2]).run Try.prog w6 = .ok (.slice a4 (N + m2) c4) w7) ∧ Hid (CuS w b d L (p1, p2) (q1, q2) 2 (j + 1) a3 (m + 1) c3 a4 (N + m2) c4 w7)) := by
          rintro W rfl
          have hbw : Below w.heap.size w W := by rw [HBE.out]; exact hst.out.hb
          refine (HPA.out (A1 + j) x W (HPT.out.1.below hbw) hx hxl).mono ?_
          rintro e w' ⟨a1, c1, a2, c2, rfl, ho1, ho2, hb2⟩
          have hg := (hb2.block b xl).trans hst.out.rg
          obtain ⟨a3, c3, w6, a4, c4, w7, h1, h2, h3⟩ := hst.out.step2 rfl hb2 hin rfl ho2 hwf (by omega) (by omega)
          exact ⟨a1, _, c1, a2, _, c2, rfl, cell_row hg 4, heap_lt hg, hml, a3, c3, w6, a4, c4, w7, h1, h2, h3⟩
        clear hst hx hxl hin hml hwf t1 t2 t3 t4 t5 t6
        go_wp2_with (first
          | (at_builtin; go_must (first
            | (with_reducible refine Lib.wpList_append_run _ rfl (.tmp 51) (.tmp 53) _ _ rfl _ _ rfl rfl _ _ (HRUN1.out _) ?_)
            | (with_reducible refine Lib.wpList_append_run _ rfl (.tmp 55) (.tmp 56) _ _ rfl _ _ rfl rfl _ _ (HRUN2.out _) ?_)))
          | (go_at_call 44; (refine (HC.out _ rfl).mono ?_); rintro e w5 ⟨a1, m1, c1, a2, m2, c2, rfl, z1, z2, hm2, a3, c3, w6, a4, c4, w7, HRUN1, HRUN2, HN⟩))
        go_roundw
        case rel => exact ⟨j + 1, m + 1, N + m2, a3, c3, a4, c4, rfl, rfl, by go_num, by omega, by omega, by omega, HN⟩
        case measure => simp [intOf]; omega
      · have hk2 : (k == 2) = false := by simpa using hk
        have hir : A1 + j < n := by omega
        obtain ⟨x, hx⟩ : ∃ x, L[A1 + j]? = some x := ⟨_, List.getElem?_eq_getElem (by have := HPT.out.2.1; omega)⟩
        have hxl : x.length ≤ 1048576 := by
          have hm : x.length ∈ lens L := List.mem_map.2 ⟨_, List.mem_of_getElem? hx, rfl⟩
          have := sizeN_mem hm
          have := HPT.out.2.2
          omega
        have hin : partOut k (p1, p2) (q1, q2) (A1 + j) x x.length = outL L k (p1, p2) (q1, q2) ((endsR (p1, p2) (q1, q2)).1.1 + j) := by
          rw [HA1.out.1]; unfold outL; rw [lnL_of hx]
        have hml : (partOut k (p1, p2) (q1, q2) (A1 + j) x x.length).length ≤ 1048576 := Nat.le_trans (partOut_len _ _ _ _ _ _) hxl
        have hwf : ∀ y ∈ partOut k (p1, p2) (q1, q2) (A1 + j) x x.length, (Lit.int .i32 y).wf = true := by rw [hin]; exact outL_wf HPT.out.1 k _ _ _
        have hNb : N + 1048576 ≤ 17592186044416 := by omega
        have HC : Hid (∀ W, W = wr → Calls Try.prog 44 #[.slice a n c, .int .i64 ((A1 + j : Nat) : Int), .agg #[.int .i64 (p1 : Nat), .int .i64 (p2 : Nat), .int .i64 (q1 : Nat), .int .i64 (q2 : Nat), .int .i64 k]] W fun e w' => ∃ a1 m1 c1 a2 m2 c2, e = .returned (.tuple #[.slice a1 m1 c1, .slice a2 m2 c2]) ∧ w'.cell? ⟨b, 4, none⟩ = some (.int .i64 k) ∧ b < w'.heap.size ∧ m2 ≤ 1048576 ∧
            ∃ a4 c4 w7, Hid (∀ ty, (Builtin.append_ #[35, 35] ty #[.slice oa N oc, .slice a2 m2 c2]).run Try.prog w' = .ok (.slice a4 (N + m2) c4) w7) ∧ Hid (CuS w b d L (p1, p2) (q1, q2) k (j + 1) ra m rc a4 (N + m2) c4 w7)) := by
          rintro W rfl
          have hbw : Below w.heap.size w W := by rw [HBE.out]; exact hst.out.hb
          refine (HPA.out (A1 + j) x W (HPT.out.1.below hbw) hx hxl).mono ?_
          rintro e w' ⟨a1, c1, a2, c2, rfl, ho1, ho2, hb2⟩
          have hg := (hb2.block b xl).trans hst.out.rg
          obtain ⟨a4, c4, w7, h1, h2⟩ := hst.out.step0 hk hb2 hin (own_rd ho2 hwf) (by omega)
          exact ⟨a1, _, c1, a2, _, c2, rfl, cell_row hg 4, heap_lt hg, hml, a4, c4, w7, h1, h2⟩
        clear hst hx hxl hin hml hwf t1 t2 t3 t4 t5 t6
        go_wp2_with (first
          | (at_builtin; go_must (with_reducible refine Lib.wpList_append_run _ rfl (.tmp 55) (.tmp 56) _ _ rfl _ _ rfl rfl _ _ (HRUN2.out _) ?_))
          | (go_at_call 44; (refine (HC.out _ rfl).mono ?_); rintro e w5 ⟨a1, m1, c1, a2, m2, c2, rfl, z1, z2, hm2, a4, c4, w7, HRUN2, HN⟩))
        go_roundw
        case rel => exact ⟨j + 1, m, N + m2, ra, rc, a4, c4, rfl, rfl, by go_num, by omega, by omega, by omega, HN⟩
        case measure => simp [intOf]; omega
    · have hje : j = B1 + 1 - A1 := by omega
      subst hje
      have hgt : (B1 : Int) < ((A1 + (B1 + 1 - A1) : Nat) : Int) := by omega
      obtain ⟨lb, lo, rfl, hlb, -⟩ := HPT.out.1.at_ (by omega)
      obtain ⟨da, hda, HRD⟩ : ∃ da, (if c = B1 + 1 then some (⟨lb, lo, none⟩ : Addr) else (some (⟨lb, lo, none⟩ : Addr)).map (·.add ((B1 + 1) * 1))) = da ∧ Hid (∀ W, Below w.heap.size w W → RdL F W da (n - (B1 + 1)) (c - (B1 + 1)) (L.drop (B1 + 1))) := ⟨_, rfl, fun W hW => (HPT.out.1.below hW).drop (B1 + 1) (by omega)⟩
      have HT : Hid (∀ (W : World) (ra : Option Addr) (m rc : Nat) (O : List (List Int)), Hid (CuE w b d (p1, p2) (q1, q2) k ra m rc O W ∧ m ≤ 549755813888) → Calls Try.prog 12 #[.slice da (n - (B1 + 1)) (c - (B1 + 1))] W fun e w' => ∃ ta tc, e = .returned (.slice ta (n - (B1 + 1)) tc) ∧ ∃ a' c' W', Hid (∀ ty, (Builtin.append_ #[22, 22] ty #[.slice ra m rc, .slice ta (n - (B1 + 1)) tc]).run Try.prog w' = .ok (.slice a' (m + (n - (B1 + 1))) c') W') ∧ CuC b d k (A1, A2) (B1, B2) W' ∧ Hid (CuE w b d (p1, p2) (q1, q2) k a' (m + (n - (B1 + 1))) c' (O ++ L.drop (B1 + 1)) W')) := by
        intro W ra m rc O hW
        have hbw : Below w.heap.size w W := by rw [HBE.out]; exact hW.out.1.hb
        refine (hW.out.1.rest F (HRD.out W hbw) (by rw [lens_drop]; have := sizeN_drop_le2 (lens L) (B1 + 1); have := HPT.out.2.2; omega) hW.out.2).mono ?_
        rintro e w' ⟨ta, tc, rfl, a', c', W', h1, h2⟩
        have hc := h2.cells
        have e1 : (endsR (p1, p2) (q1, q2)).1 = (A1, A2) := by rw [← HA1.out.1, ← HA1.out.2]
        have e2 : (endsR (p1, p2) (q1, q2)).2 = (B1, B2) := by rw [← HB1.out.1, ← HB1.out.2]
        rw [e1, e2] at hc
        exact ⟨ta, tc, rfl, a', c', W', h1, hc, h2⟩
      have hB2b : B2 ≤ 1048576 := hBi.2
      have hkk : k = 0 ∨ k = 1 ∨ k = 2 := by omega
      rcases hkk with rfl | rfl | rfl
      · skip
        have q1' : (endsR (p1, p2) (q1, q2)).1 = (A1, A2) := by rw [← HA1.out.1, ← HA1.out.2]
        have q2' : (endsR (p1, p2) (q1, q2)).2 = (B1, B2) := by rw [← HB1.out.1, ← HB1.out.2]
        obtain ⟨a3, c3, w6, hrun3, hE3⟩ := hst.out.put (by decide) (by omega)
        rw [HA1.out.1] at hE3
        have hc3 := hE3.cells
        rw [q1', q2'] at hc3
        obtain ⟨i4, ia0, ia1, ib0, ib1, iz0, iz1, iy0, iy1, iya, il0, il1, il2, il3⟩ := hc3
        simp only at ia0 ia1 ib0 ib1
        obtain ⟨X, hXe⟩ : ∃ X, L.take A1 ++ [(outsL L 0 (p1, p2) (q1, q2) A1 (B1 + 1 - A1)).flatten] = X := ⟨_, rfl⟩
        rw [hXe] at hE3
        have hX : X ++ L.drop (B1 + 1) = cutL L (p1, p2) (q1, q2) 0 := by rw [cutL_zero, q1', q2', HOV.out, ← hXe]
        have hM : cutM L (p1, p2) (q1, q2) 0 = cutL L (p1, p2) (q1, q2) 0 := by unfold cutM; rw [if_neg (by simp)]
        obtain ⟨⟨Q1, Q2⟩, hQ'⟩ : ∃ Q, cutQ (cutM L (p1, p2) (q1, q2) 0) (p1, p2) (q1, q2) 0 = Q := ⟨_, rfl⟩
        have hQ : clipP (cutM L (p1, p2) (q1, q2) 0) (A1 : Int) (A2 : Int) = (Q1, Q2) := by rw [← hQ']; unfold cutQ; rw [if_neg (by decide), if_neg (by decide), q1']
        have HQ := Lib.hid hQ'
        have HCL : Hid (∀ (W : World) (a' : Option Addr) (m' c' : Nat), Hid (CuE w b d (p1, p2) (q1, q2) 0 a' m' c' (X ++ L.drop (B1 + 1)) W) → Calls Try.prog 32 #[.slice a' m' c', .agg #[.int .i64 (A1 : Nat), .int .i64 (A2 : Nat)]] (W) fun e w' => e = .returned (.agg #[.int .i64 (Q1 : Nat), .int .i64 (Q2 : Nat)]) ∧ CuZ b w' ∧ Hid (CuF w b d a' m' c' (cutM L (p1, p2) (q1, q2) 0) w')) := by
          intro W a' m' c' hW
          have hF := hW.out.toF (by rw [hX]; exact cutL_wf HPT.out.1 _ _ _)
          rw [hX] at hF
          have hF2 := hF
          refine (hF2.clip A1 A2 (by omega) (by omega)).mono ?_
          rintro e w' ⟨rfl, hz, hh⟩
          rw [← hM] at hh
          refine ⟨?_, hz, hh⟩
          rw [← hM, hQ]
        have HRUN3 := Lib.hid hrun3
        have HS3 : Hid (CuE w b d (p1, p2) (q1, q2) 0 a3 (m + 1) c3 X w6 ∧ m + 1 ≤ 549755813888) := ⟨hE3, by omega⟩
        clear hst t1 t2 t3 t4 t5 t6 hrun3 hE3 hX hM hQ' hQ hXe q1' q2'
        by_cases hcn : c = B1 + 1
        · rw [if_pos hcn] at hda
          subst hda
          have hnn : n = B1 + 1 := by omega
          subst hcn
          subst hnn
          simp only [Nat.sub_self, Nat.add_zero] at HT
          go_wp2_with (first
            | (at_builtin; go_must (first
              | (with_reducible refine Lib.wpList_append_run _ rfl (.tmp 61) (.tmp 63) _ _ rfl _ _ rfl rfl _ _ (HRUN3.out _) ?_)
              | (with_reducible refine Lib.wpList_append_run _ rfl (.tmp 65) (.tmp 71) _ _ rfl _ _ rfl rfl _ _ (HRUN4.out _) ?_)))
            | (go_at_call 32; (refine (HCL.out _ _ _ _ HE4).mono ?_); rintro e w9 ⟨rfl, ⟨n0, n1, ny0, ny1, nl⟩, HF⟩)
            | (go_at_call 12; (refine (HT.out _ _ _ _ _ HS3).mono ?_); rintro e w7 ⟨t5, t6, rfl, a4, c4, w8, HRUN4, ⟨k4, ka0, ka1, kb0, kb1, kz0, kz1, ky0, ky1, kya, kl0, kl1, kl2, kl3⟩, HE4⟩; (simp only at ka0 ka1 kb0 kb1)))
          refine bodyPost_ret (v := .tuple #[.slice a4 (m + 1) c4, plV (cutQ (cutM L (p1, p2) (q1, q2) 0) (p1, p2) (q1, q2) 0), .int .i64 0]) ?_ rfl ?_
          · rw [results_tct rfl, HQ.out]
            go_simp
            first | rfl | done
          · exact cut_end HF.out _ _ _
        · rw [if_neg hcn] at hda
          simp only [Option.map_some, Nat.mul_one] at hda
          subst hda
          have hadd : (⟨lb, lo, none⟩ : Addr).add (B1 + 1) = ⟨lb, lo + (B1 + 1), none⟩ := rfl
          rw [hadd] at HT
          go_wp2_with (first
            | (at_builtin; go_must (first
              | (with_reducible refine Lib.wpList_append_run _ rfl (.tmp 61) (.tmp 63) _ _ rfl _ _ rfl rfl _ _ (HRUN3.out _) ?_)
              | (with_reducible refine Lib.wpList_append_run _ rfl (.tmp 65) (.tmp 71) _ _ rfl _ _ rfl rfl _ _ (HRUN4.out _) ?_)))
            | (go_at_call 32; (refine (HCL.out _ _ _ _ HE4).mono ?_); rintro e w9 ⟨rfl, ⟨n0, n1, ny0, ny1, nl⟩, HF⟩)
            | (go_at_call 12; (refine (HT.out _ _ _ _ _ HS3).mono ?_); rintro e w7 ⟨t5, t6, rfl, a4, c4, w8, HRUN4, ⟨k4, ka0, ka1, kb0, kb1, kz0, kz1, ky0, ky1, kya, kl0, kl1, kl2, kl3⟩, HE4⟩; (simp only at ka0 ka1 kb0 kb1)))
          refine bodyPost_ret (v := .tuple #[.slice a4 (m + 1 + (n - (B1 + 1))) c4, plV (cutQ (cutM L (p1, p2) (q1, q2) 0) (p1, p2) (q1, q2) 0), .int .i64 0]) ?_ rfl ?_
          · rw [results_tct rfl, HQ.out]
            go_simp
            first | rfl | done
          · exact cut_end HF.out _ _ _
      · skip
        have q1' : (endsR (p1, p2) (q1, q2)).1 = (A1, A2) := by rw [← HA1.out.1, ← HA1.out.2]
        have q2' : (endsR (p1, p2) (q1, q2)).2 = (B1, B2) := by rw [← HB1.out.1, ← HB1.out.2]
        have hE3 := hst.out.toE
        rw [if_neg (by decide), HA1.out.1, List.append_nil] at hE3
        have hc3 := hE3.cells
        rw [q1', q2'] at hc3
        obtain ⟨i4, ia0, ia1, ib0, ib1, iz0, iz1, iy0, iy1, iya, il0, il1, il2, il3⟩ := hc3
        simp only at ia0 ia1 ib0 ib1
        have hX : L.take A1 ++ L.drop (B1 + 1) = cutL L (p1, p2) (q1, q2) 1 := by rw [cutL_one, q1', q2']
        have HX := Lib.hid (And.intro hX (And.intro q1' q2'))
        have HS3 : Hid (CuE w b d (p1, p2) (q1, q2) 1 ra m rc (L.take A1) wr ∧ m ≤ 549755813888) := ⟨hE3, by omega⟩
        clear hst t1 t2 t3 t4 t5 t6 hE3 hX q1' q2'
        by_cases hcn : c = B1 + 1
        · rw [if_pos hcn] at hda
          subst hda
          have hnn : n = B1 + 1 := by omega
          subst hcn
          subst hnn
          simp only [Nat.sub_self, Nat.add_zero] at HT
          go_upto_region 18 with (first
            | (at_builtin; go_must (with_reducible refine Lib.wpList_append_run _ rfl (.tmp 65) (.tmp 71) _ _ rfl _ _ rfl rfl _ _ (HRUN4.out _) ?_))
            | (go_at_call 12; (refine (HT.out _ _ _ _ _ HS3).mono ?_); rintro e w7 ⟨t5, t6, rfl, a4, c4, w8, HRUN4, ⟨k4, ka0, ka1, kb0, kb1, kz0, kz1, ky0, ky1, kya, kl0, kl1, kl2, kl3⟩, HE4⟩; (simp only at ka0 ka1 kb0 kb1)))
          obtain ⟨mo, hmo⟩ : ∃ mo, m = mo := ⟨_, rfl⟩
          rw [hmo] at HE4 ⊢
          have hF := HE4.out.toF (by rw [HX.out.1]; exact cutL_wf HPT.out.1 _ _ _)
          rw [HX.out.1] at hF
          have hlen := hF.rd.len
          have hmoS : mo ≤ 2097152 := by omega
          have HMO := Lib.hid hmo
          clear hmo
          by_cases hz : mo = 0
          · subst hz
            have hnil : cutL L (p1, p2) (q1, q2) 1 = [] := List.eq_nil_of_length_eq_zero hlen
            have hM : cutM L (p1, p2) (q1, q2) 1 = [[]] := by unfold cutM; rw [if_pos ⟨rfl, hnil⟩]
            have hQ : cutQ (cutM L (p1, p2) (q1, q2) 1) (p1, p2) (q1, q2) 1 = (0, 0) := by rw [hM]; unfold cutQ; rw [if_pos rfl]; simp [lnL, firstR]
            have HQ := Lib.hid hQ
            have HM := Lib.hid hM
            have HF := Lib.hid hF
            have HFI : Hid (∀ W, Calls Try.prog 50 #[.slice none 0 0] W fun e w' => e = .returned (.int .i64 (0 : Nat)) ∧ w' = W) := fun W => rfirst_any none 0 0 [] W (Rd.nil _ _ none 0 (by unfold maxLen; omega) (fun _ => rfl))
            have hmn0 : min (A1 : Int) 0 = 0 := by omega
            clear hF hlen hnil hM hQ
            go_wp2_with (go_at_call 50; (refine (HFI.out _).mono ?_); rintro e wq ⟨rfl, hwq⟩; subst hwq)
            rw [HM.out]
            refine bodyPost_ret (v := .tuple #[.slice (some ⟨w8.heap.size, 0, none⟩) 1 1, plV (0, 0), .int .i64 0]) ?_ rfl ?_
            · rw [results_tct rfl]
              go_simp
              first | rfl | done
            · have := HQ.out
              rw [HM.out] at this
              rw [this]
              exact cut_end2 HF.out _ _ _
          · obtain ⟨i, hi⟩ : ∃ i, min A1 (mo - 1) = i := ⟨_, rfl⟩
            have him : i < mo := by omega
            have hmi : min (A1 : Int) ((mo : Int) - 1) = (i : Int) := by omega
            have hnn : cutL L (p1, p2) (q1, q2) 1 ≠ [] := by intro e; rw [e] at hlen; simp at hlen; omega
            have hM : cutM L (p1, p2) (q1, q2) 1 = cutL L (p1, p2) (q1, q2) 1 := by unfold cutM; rw [if_neg (fun h => hnn h.2)]
            obtain ⟨x, hx⟩ : ∃ x, (cutL L (p1, p2) (q1, q2) 1)[i]? = some x := ⟨_, List.getElem?_eq_getElem (by omega)⟩
            obtain ⟨ob, oo, xa, xc, rfl, hob, _, hoc, hxr, _, _⟩ := hF.rd.get (Below.refl _ _) hx
            have hQ : cutQ (cutM L (p1, p2) (q1, q2) 1) (p1, p2) (q1, q2) 1 = (i, firstR x) := by
              rw [hM]; unfold cutQ; rw [if_pos rfl, HX.out.2.1, hlen]; simp only; rw [hi, lnL_of hx]
            obtain ⟨fx, hfx⟩ : ∃ fx, firstR x = fx := ⟨_, rfl⟩
            rw [hfx] at hQ
            have HFI : Hid (∀ W, W = w8 → Calls Try.prog 50 #[.slice xa x.length xc] W fun e w' => e = .returned (.int .i64 (fx : Nat)) ∧ w' = W) := by
              rintro W rfl
              rw [← hfx]
              exact rfirst_any xa x.length xc x W hxr
            have HQ := Lib.hid hQ
            have HM := Lib.hid hM
            have HF := Lib.hid hF
            obtain ⟨xl', hxl'⟩ : ∃ xl', x.length = xl' := ⟨_, rfl⟩
            rw [hxl'] at hoc HFI
            have hz2 : ((mo : Int) == 0) = false := by simp; omega
            clear hF hlen hnn hM hQ hx hxr hfx hxl' hi
            go_wp2_with (go_at_call 50; (refine (HFI.out _ rfl).mono ?_); rintro e wq ⟨rfl, hwq⟩; subst hwq)
            rw [HM.out]
            refine bodyPost_ret (v := .tuple #[.slice (some ⟨ob, oo, none⟩) mo c4, plV (i, fx), .int .i64 0]) ?_ rfl ?_
            · rw [results_tct rfl]
              go_simp
              first | rfl | done
            · have := HQ.out
              rw [HM.out] at this
              rw [this]
              exact cut_end HF.out _ _ _
        · rw [if_neg hcn] at hda
          simp only [Option.map_some, Nat.mul_one] at hda
          subst hda
          have hadd : (⟨lb, lo, none⟩ : Addr).add (B1 + 1) = ⟨lb, lo + (B1 + 1), none⟩ := rfl
          rw [hadd] at HT
          go_upto_region 18 with (first
            | (at_builtin; go_must (with_reducible refine Lib.wpList_append_run _ rfl (.tmp 65) (.tmp 71) _ _ rfl _ _ rfl rfl _ _ (HRUN4.out _) ?_))
            | (go_at_call 12; (refine (HT.out _ _ _ _ _ HS3).mono ?_); rintro e w7 ⟨t5, t6, rfl, a4, c4, w8, HRUN4, ⟨k4, ka0, ka1, kb0, kb1, kz0, kz1, ky0, ky1, kya, kl0, kl1, kl2, kl3⟩, HE4⟩; (simp only at ka0 ka1 kb0 kb1)))
          obtain ⟨mo, hmo⟩ : ∃ mo, m + (n - (B1 + 1)) = mo := ⟨_, rfl⟩
          rw [hmo] at HE4 ⊢
          have hF := HE4.out.toF (by rw [HX.out.1]; exact cutL_wf HPT.out.1 _ _ _)
          rw [HX.out.1] at hF
          have hlen := hF.rd.len
          have hmoS : mo ≤ 2097152 := by omega
          have HMO := Lib.hid hmo
          clear hmo
          by_cases hz : mo = 0
          · subst hz
            have hnil : cutL L (p1, p2) (q1, q2) 1 = [] := List.eq_nil_of_length_eq_zero hlen
            have hM : cutM L (p1, p2) (q1, q2) 1 = [[]] := by unfold cutM; rw [if_pos ⟨rfl, hnil⟩]
            have hQ : cutQ (cutM L (p1, p2) (q1, q2) 1) (p1, p2) (q1, q2) 1 = (0, 0) := by rw [hM]; unfold cutQ; rw [if_pos rfl]; simp [lnL, firstR]
            have HQ := Lib.hid hQ
            have HM := Lib.hid hM
            have HF := Lib.hid hF
            have HFI : Hid (∀ W, Calls Try.prog 50 #[.slice none 0 0] W fun e w' => e = .returned (.int .i64 (0 : Nat)) ∧ w' = W) := fun W => rfirst_any none 0 0 [] W (Rd.nil _ _ none 0 (by unfold maxLen; omega) (fun _ => rfl))
            have hmn0 : min (A1 : Int) 0 = 0 := by omega
            clear hF hlen hnil hM hQ
            go_wp2_with (go_at_call 50; (refine (HFI.out _).mono ?_); rintro e wq ⟨rfl, hwq⟩; subst hwq)
            rw [HM.out]
            refine bodyPost_ret (v := .tuple #[.slice (some ⟨w8.heap.size, 0, none⟩) 1 1, plV (0, 0), .int .i64 0]) ?_ rfl ?_
            · rw [results_tct rfl]
              go_simp
              first | rfl | done
            · have := HQ.out
              rw [HM.out] at this
              rw [this]
              exact cut_end2 HF.out _ _ _
          · obtain ⟨i, hi⟩ : ∃ i, min A1 (mo - 1) = i := ⟨_, rfl⟩
            have him : i < mo := by omega
            have hmi : min (A1 : Int) ((mo : Int) - 1) = (i : Int) := by omega
            have hnn : cutL L (p1, p2) (q1, q2) 1 ≠ [] := by intro e; rw [e] at hlen; simp at hlen; omega
            have hM : cutM L (p1, p2) (q1, q2) 1 = cutL L (p1, p2) (q1, q2) 1 := by unfold cutM; rw [if_neg (fun h => hnn h.2)]
            obtain ⟨x, hx⟩ : ∃ x, (cutL L (p1, p2) (q1, q2) 1)[i]? = some x := ⟨_, List.getElem?_eq_getElem (by omega)⟩
            obtain ⟨ob, oo, xa, xc, rfl, hob, _, hoc, hxr, _, _⟩ := hF.rd.get (Below.refl _ _) hx
            have hQ : cutQ (cutM L (p1, p2) (q1, q2) 1) (p1, p2) (q1, q2) 1 = (i, firstR x) := by
              rw [hM]; unfold cutQ; rw [if_pos rfl, HX.out.2.1, hlen]; simp only; rw [hi, lnL_of hx]
            obtain ⟨fx, hfx⟩ : ∃ fx, firstR x = fx := ⟨_, rfl⟩
            rw [hfx] at hQ
            have HFI : Hid (∀ W, W = w8 → Calls Try.prog 50 #[.slice xa x.length xc] W fun e w' => e = .returned (.int .i64 (fx : Nat)) ∧ w' = W) := by
              rintro W rfl
              rw [← hfx]
              exact rfirst_any xa x.length xc x W hxr
            have HQ := Lib.hid hQ
            have HM := Lib.hid hM
            have HF := Lib.hid hF
            obtain ⟨xl', hxl'⟩ : ∃ xl', x.length = xl' := ⟨_, rfl⟩
            rw [hxl'] at hoc HFI
            have hz2 : ((mo : Int) == 0) = false := by simp; omega
            clear hF hlen hnn hM hQ hx hxr hfx hxl' hi
            go_wp2_with (go_at_call 50; (refine (HFI.out _ rfl).mono ?_); rintro e wq ⟨rfl, hwq⟩; subst hwq)
            rw [HM.out]
            refine bodyPost_ret (v := .tuple #[.slice (some ⟨ob, oo, none⟩) mo c4, plV (i, fx), .int .i64 0]) ?_ rfl ?_
            · rw [results_tct rfl]
              go_simp
              first | rfl | done
            · have := HQ.out
              rw [HM.out] at this
              rw [this]
              exact cut_end HF.out _ _ _
      · skip
        have q1' : (endsR (p1, p2) (q1, q2)).1 = (A1, A2) := by rw [← HA1.out.1, ← HA1.out.2]
        have q2' : (endsR (p1, p2) (q1, q2)).2 = (B1, B2) := by rw [← HB1.out.1, ← HB1.out.2]
        have hE3 := hst.out.toE
        rw [if_pos rfl, HA1.out.1] at hE3
        have hc3 := hE3.cells
        rw [q1', q2'] at hc3
        obtain ⟨i4, ia0, ia1, ib0, ib1, iz0, iz1, iy0, iy1, iya, il0, il1, il2, il3⟩ := hc3
        simp only at ia0 ia1 ib0 ib1
        obtain ⟨X, hXe⟩ : ∃ X, L.take A1 ++ outsL L 2 (p1, p2) (q1, q2) A1 (B1 + 1 - A1) = X := ⟨_, rfl⟩
        rw [hXe] at hE3
        have hX : X ++ L.drop (B1 + 1) = cutL L (p1, p2) (q1, q2) 2 := by rw [cutL_two, q1', q2', HOV.out, ← hXe]
        have hM : cutM L (p1, p2) (q1, q2) 2 = cutL L (p1, p2) (q1, q2) 2 := by unfold cutM; rw [if_neg (by simp)]
        obtain ⟨mn, hmn⟩ : ∃ mn, min A2 B2 = mn := ⟨_, rfl⟩
        have hmi : min (A2 : Int) (B2 : Int) = (mn : Int) := by omega
        have hmb : mn ≤ 1048576 := by omega
        have hend := ends_min (p1, p2) (q1, q2)
        rw [q1', q2'] at hend
        obtain ⟨⟨Q1, Q2⟩, hQ'⟩ : ∃ Q, cutQ (cutM L (p1, p2) (q1, q2) 2) (p1, p2) (q1, q2) 2 = Q := ⟨_, rfl⟩
        have hQ : clipP (cutM L (p1, p2) (q1, q2) 2) (A1 : Int) (mn : Int) = (Q1, Q2) := by rw [← hQ']; unfold cutQ; rw [if_neg (by decide), if_pos rfl, q1', ← hend, ← hmn]
        have HQ := Lib.hid hQ'
        have HCL : Hid (∀ (W : World) (a' : Option Addr) (m' c' : Nat), Hid (CuE w b d (p1, p2) (q1, q2) 2 a' m' c' (X ++ L.drop (B1 + 1)) W) → Calls Try.prog 32 #[.slice a' m' c', .agg #[.int .i64 (A1 : Nat), .int .i64 (mn : Nat)]] (W.setCell ⟨d, 1, none⟩ (.int .i64 (mn : Nat))) fun e w' => e = .returned (.agg #[.int .i64 (Q1 : Nat), .int .i64 (Q2 : Nat)]) ∧ CuZ b w' ∧ Hid (CuF w b d a' m' c' (cutM L (p1, p2) (q1, q2) 2) w')) := by
          intro W a' m' c' hW
          have hF := hW.out.toF (by rw [hX]; exact cutL_wf HPT.out.1 _ _ _)
          rw [hX] at hF
          have hF2 := hF.set (.int .i64 (mn : Nat))
          refine (hF2.clip A1 mn (by omega) (by omega)).mono ?_
          rintro e w' ⟨rfl, hz, hh⟩
          rw [← hM] at hh
          refine ⟨?_, hz, hh⟩
          rw [← hM, hQ]
        have HS3 : Hid (CuE w b d (p1, p2) (q1, q2) 2 ra m rc X wr ∧ m ≤ 549755813888) := ⟨hE3, by omega⟩
        clear hst t1 t2 t3 t4 t5 t6 hE3 hX hM hQ' hQ hXe q1' q2' hmn hend
        by_cases hcn : c = B1 + 1
        · rw [if_pos hcn] at hda
          subst hda
          have hnn : n = B1 + 1 := by omega
          subst hcn
          subst hnn
          simp only [Nat.sub_self, Nat.add_zero] at HT
          go_wp2_with (first
            | (at_builtin; go_must (with_reducible refine Lib.wpList_append_run _ rfl (.tmp 65) (.tmp 71) _ _ rfl _ _ rfl rfl _ _ (HRUN4.out _) ?_))
            | (go_at_call 32; (refine (HCL.out _ _ _ _ HE4).mono ?_); rintro e w9 ⟨rfl, ⟨n0, n1, ny0, ny1, nl⟩, HF⟩)
            | (go_at_call 12; (refine (HT.out _ _ _ _ _ HS3).mono ?_); rintro e w7 ⟨t5, t6, rfl, a4, c4, w8, HRUN4, ⟨k4, ka0, ka1, kb0, kb1, kz0, kz1, ky0, ky1, kya, kl0, kl1, kl2, kl3⟩, HE4⟩; (simp only at ka0 ka1 kb0 kb1)))
          refine bodyPost_ret (v := .tuple #[.slice a4 m c4, plV (cutQ (cutM L (p1, p2) (q1, q2) 2) (p1, p2) (q1, q2) 2), .int .i64 0]) ?_ rfl ?_
          · rw [results_tct rfl, HQ.out]
            go_simp
            first | rfl | done
          · exact cut_end HF.out _ _ _
        · rw [if_neg hcn] at hda
          simp only [Option.map_some, Nat.mul_one] at hda
          subst hda
          have hadd : (⟨lb, lo, none⟩ : Addr).add (B1 + 1) = ⟨lb, lo + (B1 + 1), none⟩ := rfl
          rw [hadd] at HT
          go_wp2_with (first
            | (at_builtin; go_must (with_reducible refine Lib.wpList_append_run _ rfl (.tmp 65) (.tmp 71) _ _ rfl _ _ rfl rfl _ _ (HRUN4.out _) ?_))
            | (go_at_call 32; (refine (HCL.out _ _ _ _ HE4).mono ?_); rintro e w9 ⟨rfl, ⟨n0, n1, ny0, ny1, nl⟩, HF⟩)
            | (go_at_call 12; (refine (HT.out _ _ _ _ _ HS3).mono ?_); rintro e w7 ⟨t5, t6, rfl, a4, c4, w8, HRUN4, ⟨k4, ka0, ka1, kb0, kb1, kz0, kz1, ky0, ky1, kya, kl0, kl1, kl2, kl3⟩, HE4⟩; (simp only at ka0 ka1 kb0 kb1)))
          refine bodyPost_ret (v := .tuple #[.slice a4 (m + (n - (B1 + 1))) c4, plV (cutQ (cutM L (p1, p2) (q1, q2) 2) (p1, p2) (q1, q2) 2), .int .i64 0]) ?_ rfl ?_
          · rw [results_tct rfl, HQ.out]
            go_simp
            first | rfl | done
          · exact cut_end HF.out _ _ _
end Go.Proofs.Ytfldjoiohejilaa.U
