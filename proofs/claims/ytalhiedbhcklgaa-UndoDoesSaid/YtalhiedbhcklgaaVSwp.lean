/-
  The law's fits: a swap as a change.
-/
import Derived.Test.YtalhiedbhcklgaaVBnd
import Derived.Test.YtalhiedbhcklgaaVCh
import Derived.Test.YtalhiedbhcklgaaVFit
import Derived.Deep.RegionHeld3
import Derived.Lib.MinMax
namespace Go.Proofs.Ytalhiedbhcklgaa.U
open Go.RowKit
set_option linter.unusedVariables false
set_option linter.unusedSimpArgs false
set_option maxRecDepth 100000

/-- a change's block, of zeroes -/
def ZeroC (W : World) (g : Nat) : Prop := W.heap[g]? = some (.cells #[.int .i64 0, .slice none 0 0, .slice none 0 0] 24 (0, 0))
theorem ZeroC.below {W W' : World} {g : Nat} (h : ZeroC W g) (hb : Below W.heap.size W W') : ZeroC W' g := (hb.block g (heap_lt h)).trans h
theorem ZeroC.drew {W : World} {g : Nat} (h : ZeroC W g) : ZeroC W.drew g := h
theorem ZeroC.new (W : World) : ZeroC (W.alloc (.cells #[.int .i64 0, .slice none 0 0, .slice none 0 0] 24)) W.heap.size := heap_alloc_new W _
theorem ZeroC.facts {W : World} {g : Nat} (h : ZeroC W g) : W.cell? ⟨g, 0, none⟩ = some (.int .i64 0) ∧ W.cell? ⟨g, 1, none⟩ = some (.slice none 0 0) ∧ W.cell? ⟨g, 2, none⟩ = some (.slice none 0 0) ∧ W.frozen? ⟨g, 0, none⟩ = false ∧ W.frozen? ⟨g, 1, none⟩ = false ∧ W.frozen? ⟨g, 2, none⟩ = false ∧ g < W.heap.size :=
  ⟨cell_row h 0, cell_row h 1, cell_row h 2, frozen_row h 0, frozen_row h 1, frozen_row h 2, heap_lt h⟩
/-- behind the region: the change lies in block g -/
def FitSt (B : Nat) (wb : World) (g : Nat) (p : Int) (a1 : Option Addr) (c1 : Nat) (O : List (List Int)) (a2 : Option Addr) (c2 : Nat) (M : List (List Int)) (wx : World) : Prop :=
  wx.heap[g]? = some (.cells #[.int .i64 p, .slice a1 O.length c1, .slice a2 M.length c2] 24 (0, 0)) ∧ wb.heap.size ≤ g ∧ FreshR B wx.heap.size wx a1 O.length c1 O ∧ FreshR B wx.heap.size wx a2 M.length c2 M ∧ Below wb.heap.size wb wx
theorem fit_new {B n1 n2 : Nat} {wb w2 : World} {p : Int} {a1 a2 : Option Addr} {c1 c2 : Nat} {O M : List (List Int)} (e1 : O.length = n1) (e2 : M.length = n2) (hb : Below wb.heap.size wb w2) (f1 : FreshL B w2 a1 n1 c1 O) (f2 : FreshL B w2 a2 n2 c2 M) :
    FitSt B wb w2.heap.size p a1 c1 O a2 c2 M (w2.alloc (.cells #[.int .i64 p, .slice a1 n1 c1, .slice a2 n2 c2] 24)) := by
  subst e1 e2
  have hb2 : Below w2.heap.size w2 (w2.alloc (.cells #[.int .i64 p, .slice a1 O.length c1, .slice a2 M.length c2] 24)) := (Below.refl _ _).alloc (Nat.le_refl _) _
  exact ⟨heap_alloc_new _ _, hb.size, (f1.below hb2).freshR, (f2.below hb2).freshR, hb.trans (hb2.mono hb.size)⟩
theorem keepC_set3 {w : World} {g : Nat} {cur : Array Value} (hz : w.heap[g]? = some (.cells cur 24 (0, 0))) (v0 v1 v2 : Value) : KeepT 24 w (((w.setCell ⟨g, 0, none⟩ v0).setCell ⟨g, 1, none⟩ v1).setCell ⟨g, 2, none⟩ v2) := by
  intro k cur' t hc hne
  have hf : Fr (fun k => k = g) w (((w.setCell ⟨g, 0, none⟩ v0).setCell ⟨g, 1, none⟩ v1).setCell ⟨g, 2, none⟩ v2) := (((Fr.refl (fun k => k = g) w).setCell ⟨g, 0, none⟩ _ (fun _ => rfl)).setCell ⟨g, 1, none⟩ _ (fun _ => rfl)).setCell ⟨g, 2, none⟩ _ (fun _ => rfl)
  refine hf.block k (heap_lt hc) (fun e => ?_)
  subst e
  rw [hz] at hc
  simp at hc
  exact hne hc.2.symm
theorem keepC_set1 {w : World} {g j : Nat} {cur : Array Value} (hz : w.heap[g]? = some (.cells cur 24 (0, 0))) (v : Value) : KeepT 24 w (w.setCell ⟨g, j, none⟩ v) := by
  intro k cur' t hc hne
  have hf : Fr (fun k => k = g) w (w.setCell ⟨g, j, none⟩ v) := (Fr.refl (fun k => k = g) w).setCell ⟨g, j, none⟩ _ (fun _ => rfl)
  refine hf.block k (heap_lt hc) (fun e => ?_)
  subst e
  rw [hz] at hc
  simp at hc
  exact hne hc.2.symm
theorem fit_set {B g n1 n2 : Nat} {wb w2 : World} {p : Int} {a1 a2 : Option Addr} {c1 c2 : Nat} {O M : List (List Int)} (hz : ZeroC w2 g) (hg : wb.heap.size ≤ g) (e1 : O.length = n1) (e2 : M.length = n2) (hb : Below wb.heap.size wb w2) (f1 : FreshL B w2 a1 n1 c1 O) (f2 : FreshL B w2 a2 n2 c2 M) :
    FitSt B wb g p a1 c1 O a2 c2 M (((w2.setCell ⟨g, 0, none⟩ (.int .i64 p)).setCell ⟨g, 1, none⟩ (.slice a1 n1 c1)).setCell ⟨g, 2, none⟩ (.slice a2 n2 c2)) := by
  subst e1 e2
  have z1 := heap_set hz 0 (.int .i64 p)
  have z2 := heap_set z1 1 (.slice a1 O.length c1)
  have z3 := heap_set z2 2 (.slice a2 M.length c2)
  have k1 := keepC_set3 hz (.int .i64 p) (.slice a1 O.length c1) (.slice a2 M.length c2)
  have hsz : (((w2.setCell ⟨g, 0, none⟩ (.int .i64 p)).setCell ⟨g, 1, none⟩ (.slice a1 O.length c1)).setCell ⟨g, 2, none⟩ (.slice a2 M.length c2)).heap.size = w2.heap.size := by simp
  refine ⟨z3, hg, (f1.freshR.keep k1).mono (by rw [hsz]; exact Nat.le_refl _), (f2.freshR.keep k1).mono (by rw [hsz]; exact Nat.le_refl _), ?_⟩
  exact ((hb.setCell (p := ⟨g, 0, none⟩) hg _).setCell (p := ⟨g, 1, none⟩) hg _).setCell (p := ⟨g, 2, none⟩) hg _
/-- the change is told -/
theorem fit_end {w wb wx : World} {g b : Nat} {p : Int} {a1 a2 : Option Addr} {c1 c2 : Nat} {O M : List (List Int)} (h : FitSt wb.heap.size wb g p a1 c1 O a2 c2 M wx) (hb : Below w.heap.size w wb) (hs : wb.heap.size = w.heap.size + 2) (e : w.heap.size = b) (v0 v1 v2 : Value) :
    FreshR w.heap.size (((wx.setCell ⟨b + 1, 0, none⟩ v0).setCell ⟨b + 1, 1, none⟩ v1).setCell ⟨b + 1, 2, none⟩ v2).heap.size (((wx.setCell ⟨b + 1, 0, none⟩ v0).setCell ⟨b + 1, 1, none⟩ v1).setCell ⟨b + 1, 2, none⟩ v2) a1 O.length c1 O ∧
    FreshR w.heap.size (((wx.setCell ⟨b + 1, 0, none⟩ v0).setCell ⟨b + 1, 1, none⟩ v1).setCell ⟨b + 1, 2, none⟩ v2).heap.size (((wx.setCell ⟨b + 1, 0, none⟩ v0).setCell ⟨b + 1, 1, none⟩ v1).setCell ⟨b + 1, 2, none⟩ v2) a2 M.length c2 M ∧
    Below w.heap.size w (((wx.setCell ⟨b + 1, 0, none⟩ v0).setCell ⟨b + 1, 1, none⟩ v1).setCell ⟨b + 1, 2, none⟩ v2) := by
  subst e
  obtain ⟨h1, h2, h3, h4, h5⟩ := h
  have s1 := h5.size
  have g1 := set_high h3 (b := w.heap.size + 1) (by omega) v0 v1 v2
  have g2 := set_high h4 (b := w.heap.size + 1) (by omega) v0 v1 v2
  exact ⟨(g1.freshL.base (by omega)).freshR, (g2.freshL.base (by omega)).freshR, (((hb.trans (h5.mono (by omega))).setCell (p := ⟨w.heap.size + 1, 0, none⟩) (by simp) _).setCell (p := ⟨w.heap.size + 1, 1, none⟩) (by simp) _).setCell (p := ⟨w.heap.size + 1, 2, none⟩) (by simp) _⟩
/-- a line of nothing in the place of none -/
theorem fit_one {wb wx : World} {g : Nat} {p : Int} {a1 a2 : Option Addr} {c1 c2 : Nat} {O M : List (List Int)} (h : FitSt wb.heap.size wb g p a1 c1 O a2 c2 M wx) :
    FitSt wb.heap.size wb g p a1 c1 O (some ⟨wx.heap.size, 0, none⟩) 1 [[]] ((wx.setCell ⟨g, 2, none⟩ (.slice (some ⟨wx.heap.size, 0, none⟩) 1 1)).alloc (.cells #[.slice none 0 0] 52)) := by
  obtain ⟨h1, h2, h3, h4, h5⟩ := h
  obtain ⟨W, hW⟩ : ∃ W, wx.setCell ⟨g, 2, none⟩ (.slice (some ⟨wx.heap.size, 0, none⟩) 1 1) = W := ⟨_, rfl⟩
  have q1 : W.heap[g]? = some (.cells #[.int .i64 p, .slice a1 O.length c1, .slice (some ⟨wx.heap.size, 0, none⟩) 1 1] 24 (0, 0)) := by rw [← hW]; exact heap_set h1 2 _
  have f0 : FreshR wb.heap.size wx.heap.size W a1 O.length c1 O := by rw [← hW]; exact h3.keep (keepC_set1 (j := 2) h1 _)
  have b0 : Below wb.heap.size wb W := by rw [← hW]; exact h5.setCell (p := ⟨g, 2, none⟩) h2 _
  have hs : W.heap.size = wx.heap.size := by rw [← hW]; simp
  have hb2 : Below W.heap.size W (W.alloc (.cells #[.slice none 0 0] 52)) := (Below.refl _ _).alloc (Nat.le_refl _) _
  have fo := (fresh_one W).base (B' := wb.heap.size) (by rw [hs]; exact h5.size)
  rw [hs] at fo
  rw [hW]
  exact ⟨(hb2.block g (heap_lt q1)).trans q1, h2, (f0.freshL.below hb2).freshR, fo.freshR, b0.trans (hb2.mono (by rw [hs]; exact h5.size))⟩
theorem FreshL.over {B B' : Nat} {w w' : World} {a : Option Addr} {n c : Nat} {L : List (List Int)} (h : FreshL B' w a n c L) (hB : B ≤ B') (hb : Below w.heap.size w w') : FreshL B w' a n c L := (h.base hB).below hb

set_option maxHeartbeats 4000000 in
theorem fits_law (F G : Nat → Prop) (a sa : Option Addr) (n cap sn sc : Nat) (L M : List (List Int)) (p q : Int) (e : Bool) (w : World) (h : RdL F w a n cap L) (hM : RdL G w sa sn sc M) (hs : siz L ≤ 1048576) (hs2 : siz M ≤ 1048576) :
    Calls Try.prog 36 #[.slice a n cap, .agg #[.int .i64 p, .int .i64 q, .slice sa sn sc, .bool e]] w (CopP w (fitC L p q M)) := by
  obtain ⟨wb, hwb⟩ : ∃ wb, (w.alloc (.cells #[.int .i64 p, .int .i64 q, .slice sa sn sc, .bool e] 57)).alloc (.cells #[.int .i64 0, .slice none 0 0, .slice none 0 0] 24) = wb := ⟨_, rfl⟩
  have hB : Below w.heap.size w wb := by rw [← hwb]; exact ((Below.refl _ _).alloc (Nat.le_refl _) _).alloc (by simp) _
  have hsz : wb.heap.size = w.heap.size + 2 := by rw [← hwb]; simp
  have g1 : wb.heap[w.heap.size]? = some (.cells #[.int .i64 p, .int .i64 q, .slice sa sn sc, .bool e] 57 (0, 0)) := by rw [← hwb, Below.heap_alloc _ _ _ (by simp), heap_alloc_new]
  have g2 : wb.heap[w.heap.size + 1]? = some (.cells #[.int .i64 0, .slice none 0 0, .slice none 0 0] 24 (0, 0)) := by
    have := heap_alloc_new (w.alloc (.cells #[.int .i64 p, .int .i64 q, .slice sa sn sc, .bool e] 57)) (.cells #[.int .i64 0, .slice none 0 0, .slice none 0 0] 24)
    rw [hwb] at this
    simpa using this
  have hl := h.len
  have hlM := hM.len
  have hnm := h.small
  have hcn : n ≤ cap := by obtain ⟨vs, hv, _⟩ := h; exact hv.2.1
  have hcm : cap ≤ 9223372036854775807 := by obtain ⟨vs, hv, _⟩ := h; have := hv.2.2.1; unfold maxLen at this; omega
  have hnn := hM.small
  have hcnt := size_count L
  have hcnt2 := size_count M
  have hk1 := fitK_le L p
  have hk2 := fitN_le L p q
  obtain ⟨k, hk⟩ : ∃ k, fitK L p = k := ⟨_, rfl⟩
  obtain ⟨m, hm⟩ : ∃ m, fitN L p q = m := ⟨_, rfl⟩
  have hkv : max 0 (min p (n : Int)) = (k : Int) := by rw [← hk]; unfold fitK; omega
  have hmv : max 0 (min q ((n : Int) - (k : Int))) = (m : Int) := by rw [← hm]; unfold fitN; omega
  have hfit : fitC L p q M = ⟨(k : Nat), (L.drop k).take m, if L.length - m + M.length = 0 then [[]] else M⟩ := by unfold fitC; rw [hk, hm]
  rw [hk, hm, hl] at hk2
  rw [hk, hl] at hk1
  have HO : Hid (∀ x, x = (if cap = k then a else a.map (·.add (k * 1))) → ∀ W, Hid (Below wb.heap.size wb W) → Calls Try.prog 11 #[.slice x m (cap - k)] W fun e w' => ∃ a1 c1, e = .returned (.slice a1 m c1) ∧ Hid (Below wb.heap.size wb w') ∧ Hid (FreshL W.heap.size w' a1 m c1 ((L.drop k).take m) ∧ Below W.heap.size W w' ∧ ∀ g, ZeroC W g → ZeroC w' g)) := by
    rintro x rfl W hW
    have hs := hW.out.size
    refine (rtwin_any F _ m (cap - k) ((L.drop k).take m) W (((h.below hB).below hW.out).mid k m hk2) ?_).mono ?_
    · have h1 := size_take_le (L.drop k) m
      have h2 := sizeN_drop_le2 (lens L) k
      unfold siz at *
      unfold lens at *
      rw [← List.map_drop] at h2
      omega
    rintro e w' ⟨a1, c1, rfl, hf, hb⟩
    exact ⟨a1, c1, rfl, hW.out.trans (hb.mono hs), hf, hb, fun g hz => hz.below hb⟩
  have HN : Hid (∀ W, Hid (Below wb.heap.size wb W) → Calls Try.prog 11 #[.slice sa sn sc] W fun e w' => ∃ a1 c1, e = .returned (.slice a1 sn c1) ∧ Hid (Below wb.heap.size wb w') ∧ Hid (FreshL W.heap.size w' a1 sn c1 M ∧ Below W.heap.size W w' ∧ ∀ g, ZeroC W g → ZeroC w' g)) := by
    intro W hW
    have hs := hW.out.size
    refine (rtwin_any G sa sn sc M W ((hM.below hB).below hW.out) hs2).mono ?_
    rintro e w' ⟨a1, c1, rfl, hf, hb⟩
    exact ⟨a1, c1, rfl, hW.out.trans (hb.mono hs), hf, hb, fun g hz => hz.below hb⟩
  have HC : Hid (∀ W, Below wb.heap.size wb W → W.cell? ⟨w.heap.size, 0, none⟩ = some (.int .i64 p) ∧ W.cell? ⟨w.heap.size, 1, none⟩ = some (.int .i64 q) ∧ W.cell? ⟨w.heap.size, 2, none⟩ = some (.slice sa sn sc) ∧ w.heap.size < W.heap.size ∧ ZeroC W (w.heap.size + 1)) := by
    intro W hW
    have h1 := (hW.block _ (by omega)).trans g1
    exact ⟨cell_row h1 0, cell_row h1 1, cell_row h1 2, heap_lt h1, (hW.block _ (by omega)).trans g2⟩
  have hOl : ((L.drop k).take m).length = m := by rw [List.length_take, List.length_drop]; omega
  have HOL := Lib.hid hOl
  have HML := Lib.hid hlM
  have HLL := Lib.hid hl
  rw [hfit]
  obtain ⟨O, hO⟩ : ∃ O, (L.drop k).take m = O := ⟨_, rfl⟩
  rw [hO] at HO HOL ⊢
  obtain ⟨N, hN⟩ : ∃ N, (if L.length - m + M.length = 0 then [[]] else M) = N := ⟨_, rfl⟩
  rw [hN]
  have HNV := Lib.hid hN
  clear hN
  have HB := Lib.hid hB
  have HS := Lib.hid hsz
  have HW := Lib.hid hwb
  obtain ⟨c0, c1, c2, l0, -⟩ := HC.out wb (Below.refl _ _)
  have hn20 : n ≤ 1048576 := by unfold siz at hs; omega
  have hm20 : sn ≤ 1048576 := by unfold siz at hs2; omega
  obtain ⟨b, hb⟩ : ∃ b, w.heap.size = b := ⟨_, rfl⟩
  have HBE := Lib.hid hb
  rw [hb] at c0 c1 c2 l0 HC
  have HR0 : Hid (Below wb.heap.size wb wb) := Below.refl _ _
  have HR1 : Hid (Below wb.heap.size wb wb.drew) := (Below.refl _ _).drew
  clear h hM hs hs2 hwb hB hsz g1 g2 hl hlM hcnt hcnt2 hk hm hfit hOl hO hb
  go_enter Try.func36, Try.ntmps36
  go_upto_region 1 with fail
  rw [HW.out, HBE.out]
  go_upto_region 3 with fail
  go_cut [7] (fun v wx => ∃ g a1 m1 a2 m2, v = .pointer (some ⟨g, 0, none⟩) ∧ Hid (FitSt wb.heap.size wb g (k : Nat) a1 m1 O a2 m2 M wx))
  case first =>
    have KS : Hid (∀ W, Below wb.heap.size wb W → Below wb.heap.size wb W ∧ W.cell? ⟨b, 2, none⟩ = some (.slice sa sn sc)) := fun W hW => ⟨hW, (HC.out W hW).2.2.1⟩
    have y1 : IntKind.i64.wrap ((k : Int) + (m : Int)) = (k : Int) + (m : Int) := by rw [IntKind.wrap_i64]; omega
    have y2 : 0 ≤ (k : Int) + (m : Int) := by omega
    have y3 : ((k : Int) + (m : Int)).toNat = k + m := by omega
    have y4 : (k : Int) ≤ (k : Int) + (m : Int) := by omega
    have y5 : (k : Int) + (m : Int) ≤ (cap : Int) := by omega
    clear hkv hmv c0 c1
    by_cases hck : cap = k
    case' pos =>
      have HOX := Lib.hid (HO.out a (by rw [if_pos hck]))
      have HCK : (cap = k) = True := by simpa using hck
      have HFIN := Lib.hid hck
      clear hck
    case' neg =>
      have HOX := Lib.hid (HO.out (a.map (·.add (k * 1))) (by rw [if_neg hck]))
      rw [Nat.mul_one] at HOX
    all_goals
      go_region_held3 (fun w' => Below wb.heap.size wb w' ∧ w'.cell? ⟨b, 2, none⟩ = some (.slice sa sn sc))
        (first
          | exact KS.out _ HR0.out
          | exact KS.out _ HR1.out
          | exact KS.out _ q1.out
          | exact KS.out _ q2.out
          | exact KS.out _ (HR1.out.alloc HR1.out.size _)
          | exact KS.out _ (q1.out.alloc q1.out.size _)
          | exact KS.out _ (q2.out.alloc q2.out.size _)
          | exact KS.out _ (HR0.out.alloc HR0.out.size _)
          | exact KS.out _ (HR0.out.alloc HR0.out.size _).drew
          | (refine KS.out _ (Below.setCell (Below.setCell (Below.setCell q1.out ?_ _) ?_ _) ?_ _) <;> first | exact Nat.le_refl _ | exact q1.out.size | exact q2.out.size)
          | (refine KS.out _ (Below.setCell (Below.setCell (Below.setCell q2.out ?_ _) ?_ _) ?_ _) <;> first | exact Nat.le_refl _ | exact q1.out.size | exact q2.out.size))
        (first
          | (go_at_call 11; (with_reducible refine (HOX.out _ (by first | exact HR0 | exact HR1 | exact q2 | exact Lib.hid (HR0.out.alloc HR0.out.size _).drew | exact Lib.hid (HR1.out.alloc HR1.out.size _) | exact Lib.hid (q2.out.alloc q2.out.size _))).mono ?_); rintro e1 w1 ⟨a1, m1, rfl, q1, p1⟩; (try (have hz1 : ZeroC w1 _ := (by first | with_reducible exact p1.out.2.2 _ (ZeroC.new _) | with_reducible exact p1.out.2.2 _ (ZeroC.new _).drew); obtain ⟨z10, z11, z12, z13, z14, z15, z16⟩ := hz1.facts)); (try (have hz1 : ZeroC w1 _ := p1.out.2.2 _ hz2; obtain ⟨z10, z11, z12, z13, z14, z15, z16⟩ := hz1.facts)))
          | (go_at_call 11; (with_reducible refine (HN.out _ (by first | exact HR0 | exact HR1 | exact q1 | exact Lib.hid (HR0.out.alloc HR0.out.size _).drew | exact Lib.hid (HR1.out.alloc HR1.out.size _) | exact Lib.hid (q1.out.alloc q1.out.size _))).mono ?_); rintro e2 w2 ⟨a2, m2, rfl, q2, p2⟩; (try (have hz2 : ZeroC w2 _ := (by first | with_reducible exact p2.out.2.2 _ (ZeroC.new _) | with_reducible exact p2.out.2.2 _ (ZeroC.new _).drew); obtain ⟨z20, z21, z22, z23, z24, z25, z26⟩ := hz2.facts)); (try (have hz2 : ZeroC w2 _ := p2.out.2.2 _ hz1; obtain ⟨z20, z21, z22, z23, z24, z25, z26⟩ := hz2.facts))))
    all_goals
      go_wp2_with fail
      go_meet
      first
        | exact ⟨_, _, _, _, _, rfl, fit_new HOL.out HML.out q2.out (p1.out.1.over (Nat.le_refl _) p2.out.2.1) (p2.out.1.over q1.out.size (Below.refl _ _))⟩
        | exact ⟨_, _, _, _, _, rfl, fit_set hz2 q1.out.size HOL.out HML.out q2.out (p1.out.1.over (Nat.le_refl _) (((Below.refl _ _).alloc (Nat.le_refl _) _).trans (p2.out.2.1.mono (by simp)))) (p2.out.1.over (by simp; have := q1.out.size; omega) (Below.refl _ _))⟩
        | exact ⟨_, _, _, _, _, rfl, fit_set hz2 (Nat.le_refl _) HOL.out HML.out q2.out (p1.out.1.over (by simp [World.drew]) p2.out.2.1) (p2.out.1.over q1.out.size (Below.refl _ _))⟩
  case rest =>
    obtain ⟨g, a1, m1, a2, m2, rfl, hfs⟩ := hcut
    obtain ⟨z0, z1, z2, zl, zz⟩ := HC.out wc hfs.out.2.2.2.2
    obtain ⟨x0, x1, x2, x3, x4, x5, x6⟩ := zz.facts
    have hgc := hfs.out.1
    rw [HOL.out, HML.out] at hgc
    have v0 := cell_row hgc 0
    have v1 := cell_row hgc 1
    have v2 := cell_row hgc 2
    have vf := frozen_row hgc 2
    have vl := heap_lt hgc
    have y1 : IntKind.i64.wrap ((n : Int) - (m : Int)) = (n : Int) - (m : Int) := by rw [IntKind.wrap_i64]; omega
    have y2 : IntKind.i64.wrap ((n : Int) - (m : Int) + (sn : Int)) = (n : Int) - (m : Int) + (sn : Int) := by rw [IntKind.wrap_i64]; omega
    have HGC := Lib.hid hgc
    clear hgc zz z0 z1 c0 c1 c2 l0 hkv hmv
    by_cases hz : (n : Int) - (m : Int) + (sn : Int) = 0
    · have hz1 : ((n : Int) - (m : Int) + (sn : Int) == 0) = true := by simpa using hz
      obtain rfl : N = [[]] := by
        rw [← HNV.out, if_pos (by have := HLL.out; have := HML.out; omega)]
      have hf1 := fit_one hfs.out
      obtain ⟨wd, hwd⟩ : ∃ wd, ((wc.setCell ⟨g, 2, none⟩ (.slice (some ⟨wc.heap.size, 0, none⟩) 1 1)).alloc (.cells #[.slice none 0 0] 52)) = wd := ⟨_, rfl⟩
      rw [hwd] at hf1
      have HF1 := Lib.hid hf1
      have HWD := Lib.hid hwd
      clear hf1 hwd
      go_upto_region 6 with fail
      rw [HWD.out]
      obtain ⟨-, -, -, -, zz⟩ := HC.out wd HF1.out.2.2.2.2
      clear x0 x1 x2 x3 x4 x5 x6 v0 v1 v2 vf vl z2 zl
      obtain ⟨x0, x1, x2, x3, x4, x5, x6⟩ := zz.facts
      have hgc := HF1.out.1
      rw [HOL.out] at hgc
      have v0 := cell_row hgc 0
      have v1 := cell_row hgc 1
      have v2 := cell_row hgc 2
      have vl := heap_lt hgc
      clear hgc zz
      go_wp2_with fail
      (try simp only [Exit.inBlock, Exit.then])
      have HFE := fit_end HF1.out HB.out HS.out HBE.out (.int .i64 (k : Nat)) (.slice a1 m m1) (.slice (some ⟨wc.heap.size, 0, none⟩) 1 1)
      refine bodyPost_ret (v := .agg #[.int .i64 (k : Nat), .slice a1 m m1, .slice (some ⟨wc.heap.size, 0, none⟩) 1 1]) ?_ rfl ⟨a1, m1, _, _, ?_, HFE⟩
      · rw [results_cell1 rfl]
        go_simp
      · simp only [HOL.out]; rfl
    · have hz1 : ((n : Int) - (m : Int) + (sn : Int) == 0) = false := by simpa using hz
      have HNE : Hid (M = N) := by
        show _ = _
        rw [← HNV.out, if_neg (by have := HLL.out; have := HML.out; omega)]
      clear HNV
      have HMN := HNE.out
      subst HMN
      go_wp2_with fail
      (try simp only [Exit.inBlock, Exit.then])
      have HFE := fit_end hfs.out HB.out HS.out HBE.out (.int .i64 (k : Nat)) (.slice a1 m m1) (.slice a2 sn m2)
      refine bodyPost_ret (v := .agg #[.int .i64 (k : Nat), .slice a1 m m1, .slice a2 sn m2]) ?_ rfl ⟨a1, m1, a2, m2, ?_, HFE⟩
      · rw [results_cell1 rfl]
        go_simp
      · simp only [HOL.out, HML.out]
end Go.Proofs.Ytalhiedbhcklgaa.U
